/-
  The contracts of merged's closure, of its copy and of its sort: a row of spans, sorted by where they begin. Conditions: the row takes no more bytes than there are.
-/
import Derived.Test.YtddoanmhikldiabJo
import Derived.Test.YtddoanmhikldiabShelf
import Derived.Lib.SliceRun
namespace Go.Proofs.Ytddoanmhikldiab
open Go.RowKit Go.Shelf Go.Sort
theorem nan_any (x : Int) (w : World) : Calls Try.prog 35 #[.int .i32 x] w fun e w' => e = .returned (.bool false) ∧ w' = w := by
  go_enter Try.func35, Try.ntmps35
  go_wp2
  go_ret
  exact ⟨rfl, rfl⟩
theorem compare_any (x y : Int) (w : World) : Calls Try.prog 31 #[.int .i32 x, .int .i32 y] w fun e w' => e = .returned (.int .i64 (Lib.compareInt x y)) ∧ w' = w := by
  by_cases c1 : x < y
  · have hc : Lib.compareInt x y = -1 := by simp [Lib.compareInt, c1]
    rw [hc]; clear hc
    go_enter Try.func31, Try.ntmps31
    go_wp2_with (go_at_call 35; refine (nan_any _ _).mono ?_; rintro e w' ⟨rfl, rfl⟩)
    go_ret
    exact ⟨rfl, rfl⟩
  · by_cases c2 : y < x
    · have hc : Lib.compareInt x y = 1 := by simp [Lib.compareInt, c1, c2]
      rw [hc]; clear hc
      have c1' : decide (x < y) = false := decide_eq_false c1
      clear c1
      go_enter Try.func31, Try.ntmps31
      go_wp2_with (go_at_call 35; refine (nan_any _ _).mono ?_; rintro e w' ⟨rfl, rfl⟩)
      go_ret
      exact ⟨rfl, rfl⟩
    · have hc : Lib.compareInt x y = 0 := by simp [Lib.compareInt, c1, c2]
      rw [hc]; clear hc
      have c1' : decide (x < y) = false := decide_eq_false c1
      have c2' : decide (y < x) = false := decide_eq_false c2
      clear c1 c2
      go_enter Try.func31, Try.ntmps31
      go_wp2_with (go_at_call 35; refine (nan_any _ _).mono ?_; rintro e w' ⟨rfl, rfl⟩)
      go_ret
      exact ⟨rfl, rfl⟩
def encS (x : Sn) : List Value := [.int .i32 x.1, .int .i32 x.2]
set_option maxHeartbeats 1000000 in
theorem clos_any (x y : Sn) (W : World) : Calls Try.prog 30 #[.agg #[.int .i32 x.1, .int .i32 x.2], .agg #[.int .i32 y.1, .int .i32 y.2]] W fun e w' => e = .returned (.int .i64 (Lib.compareInt x.1 y.1)) ∧ ∃ q os', w' = grow (W.drewN q) os' := by
  have hcon := fun W' => compare_any x.1 y.1 W'
  generalize Lib.compareInt x.1 y.1 = r at hcon ⊢
  go_enter Try.func30, Try.ntmps30
  go_wp2_with (go_at_call 31; refine (hcon _).mono ?_; rintro e w' ⟨rfl, rfl⟩)
  go_ret
  exact ⟨rfl, 0, _, by rw [alloc_eq_grow, alloc_eq_grow, grow_grow]; rfl⟩
theorem ltLo (x y : Sn) : ltOf (fun x y : Sn => Lib.compareInt x.1 y.1) x y = decide (x.1 < y.1) := by
  unfold ltOf Lib.compareInt
  by_cases h1 : x.1 < y.1
  · simp [h1]
  · by_cases h2 : y.1 < x.1 <;> simp [h1, h2]
theorem swoLo : SWO (ltOf fun x y : Sn => Lib.compareInt x.1 y.1) where
  irrefl x := by rw [ltLo]; simp
  trans x y z h1 h2 := by rw [ltLo] at *; simp at *; omega
  ntrans x y z h1 h2 := by rw [ltLo] at *; simp at *; omega
theorem sort_any (blk off cap : Nat) (d : Array Sn) (w : World) (hH : HoldsK encS 2 w blk off d) (hblk : blk < w.heap.size) (hsz : d.size < 4611686018427387904) :
    Calls Try.prog 29 #[.slice (some ⟨blk, off, none⟩) d.size cap, .func (.func 30) #[] #[]] w fun e w' => e = .returned (.tuple #[]) ∧ ∃ d' n os, PermIn 0 d.size d d' ∧ SortedIn (ltOf fun x y : Sn => Lib.compareInt x.1 y.1) 0 d.size d' ∧ w' = sortWorldK encS 2 w blk off n d' os := by
  have eg : ∀ args w, (callFunc 30 args).run Try.prog w = .ok (.enter 30 args) w := enters_of Try.func30 (by kernel_rfl) rfl
  exact AnyQ.slices_SortFunc Try.sortL 2 Try.isAgg41 Try.sizeOf41 encS (fun _ => rfl) (fun x v hv => by simp [encS] at hv; rcases hv with rfl | rfl <;> rfl) (fun x y => Lib.compareInt x.1 y.1) swoLo 30 #[] blk off cap d w eg (fun _ _ _ _ x y => clos_any x y _) hH hblk hsz
theorem sort_none (p : Option Addr) (cap : Nat) (fv : Value) (w : World) : Calls Try.prog 29 #[.slice p 0 cap, fv] w fun e w' => e = .returned (.tuple #[]) ∧ w' = w :=
  AnyF.slices_SortFunc_none Try.sortL p cap fv w
theorem celS_at (L : List Sn) (j : Nat) (u : Value) (h : (celS L)[j]? = some u) : ∃ i, i < L.length ∧ (j = i * 2 ∧ u = .int .i32 (L.getD i (0, 0)).1 ∨ j = i * 2 + 1 ∧ u = .int .i32 (L.getD i (0, 0)).2) := by
  have hj : j < (celS L).length := (List.getElem?_eq_some_iff.1 h).1
  rw [celS_len] at hj
  have hi : j / 2 < L.length := by omega
  obtain ⟨h1, h2⟩ := celS_get L (j / 2) hi
  refine ⟨j / 2, hi, ?_⟩
  by_cases c : j = j / 2 * 2
  · left
    rw [c, h1] at h
    exact ⟨c, (Option.some.inj h).symm⟩
  · right
    have c' : j = j / 2 * 2 + 1 := by omega
    rw [c', h2] at h
    exact ⟨c', (Option.some.inj h).symm⟩
theorem celS_one (L : List Sn) : ∀ u ∈ celS L, u.oneCell' = true := by
  intro u hu
  simp only [celS, List.mem_flatMap, List.mem_cons, List.not_mem_nil, or_false] at hu
  obtain ⟨s, _, rfl | rfl⟩ := hu <;> rfl
set_option maxRecDepth 100000 in
set_option maxHeartbeats 1000000 in
theorem clone_any (L : List Sn) (v : Value) (w : World) (hr : RdS w v L) (hl : L.length ≤ 17592186044416) : Calls Try.prog 19 #[v] w fun e w' => ∃ v', e = .returned v' ∧ w'.ownsRow w.heap.size 41 2 v' L.length (celS L) ∧ Below w.heap.size w w' := by
  obtain ⟨a, c, rfl, hlc, hc⟩ := hr
  obtain ⟨i0, hi, hz0, hz1, hz2⟩ := info_parts info57
  cases a with
  | none =>
    have h0 : L = [] := by
      cases L with
      | nil => rfl
      | cons s L => obtain ⟨g, off, h, _⟩ := hc (by simp); cases h
    subst h0
    have q22 : ∀ (w : World) (a : Option Addr) (n c n' c' : Nat), (binOp .eql 22 (.slice a n c) (.slice none n' c')).run Try.prog w = .ok (.bool a.isNone) w := fun w a n c n' c' => Lib.run_eql_slice_nil w _ _ a n c n' c' Try.underlying22
    go_enter Try.func19, Try.ntmps19
    go_wp2
    go_ret
    exact ⟨_, rfl, World.ownsRow_nil _ _ _ _, Below.refl _ _⟩
  | some ad =>
    have hcn : Hid (∀ j u, (celS L)[j]? = some u → (w.alloc (.cells #[] 41)).cell? (ad.add j) = some u) := by
      intro j u hj
      obtain ⟨i, hi, h⟩ := celS_at L j u hj
      obtain ⟨g, off, rfl0, hd⟩ := hc (by omega)
      cases rfl0
      obtain ⟨d1, d2⟩ := hd i hi
      have hb : Below w.heap.size w (w.alloc (.cells #[] 41)) := (Below.refl _ _).alloc (Nat.le_refl _) _
      have g1 := World.block_lt_of_cell? w _ d1
      rw [Go.WideShapes.add_plain]
      rcases h with ⟨rfl, rfl⟩ | ⟨rfl, rfl⟩
      · exact (hb.cell (p := ⟨g, off + i * 2, none⟩) (by simpa using g1)).trans d1
      · exact (hb.cell (p := ⟨g, off + (i * 2 + 1), none⟩) (by simpa using g1)).trans d2
    clear hc
    have q22 : ∀ (w : World) (a : Option Addr) (n c n' c' : Nat), (binOp .eql 22 (.slice a n c) (.slice none n' c')).run Try.prog w = .ok (.bool a.isNone) w := fun w a n c n' c' => Lib.run_eql_slice_nil w _ _ a n c n' c' Try.underlying22
    go_enter Try.func19, Try.ntmps19
    go_wp2_with (at_builtin; go_must (refine wpList_append_own _ rfl _ _ 22 rfl w.heap.size 41 i0 _ 2 8 Try.underlying22 hi hz0 hz1 hz2 rfl (by decide) _ 0 [] rfl (own_none w _ 41 (Nat.le_refl _)) ad L.length c (celS L) rfl (celS_len L) hcn.out (celS_one L) (by unfold maxLen; omega) (by omega) (by simp) ?_))
    intro v' w1 hown hgrow _
    have hO : Hid _ := hown
    have hB : Hid (Below w.heap.size w w1) := ((Below.refl _ w).alloc (Nat.le_refl _) _).grown hgrow (by simp) (fun j hj => by simp [Value.ownBlock] at hj; omega)
    clear hown hgrow
    go_wp2
    go_ret
    exact ⟨_, rfl, hO.out, hB.out⟩
theorem getD_arr (L : List Sn) (i : Nat) (h : i < L.length) : L.toArray[i]! = L.getD i (0, 0) := by
  simp [h]
theorem holds_of {w : World} {b g c : Nat} {L : List Sn} (h : w.ownsRow b 41 2 (.slice (some ⟨g, 0, none⟩) L.length c) L.length (celS L)) : HoldsK encS 2 w g 0 L.toArray := by
  intro j hj
  rw [size_flatK, List.size_toArray] at hj
  rw [get_flatK _ _ _ _ (by simpa using hj), Nat.zero_add]
  have hi : j / 2 < L.length := by omega
  obtain ⟨h1, h2⟩ := celS_get L (j / 2) hi
  rw [getD_arr L _ hi]
  by_cases hm : j % 2 = 0
  · rw [hm]
    have := owns_cell h rfl (j / 2 * 2) _ h1
    rw [show j / 2 * 2 = j by omega] at this
    exact this
  · have hm1 : j % 2 = 1 := by omega
    rw [hm1]
    have := owns_cell h rfl (j / 2 * 2 + 1) _ h2
    rw [show j / 2 * 2 + 1 = j by omega] at this
    exact this
theorem rd_of_holds {w : World} {g c : Nat} {d : Array Sn} (h : HoldsK encS 2 w g 0 d) (hc : d.size ≤ c) : RdS w (.slice (some ⟨g, 0, none⟩) d.size c) d.toList := by
  refine ⟨some ⟨g, 0, none⟩, c, by simp, by simpa using hc, fun _ => ⟨g, 0, rfl, fun j hj => ?_⟩⟩
  have hj' : j < d.size := by simpa using hj
  have e : d.toList.getD j (0, 0) = d[j]! := by simp [List.getD, hj']
  have h1 := (h (j * 2) (by rw [size_flatK]; omega)).1
  have h2 := (h (j * 2 + 1) (by rw [size_flatK]; omega)).1
  rw [get_flatK _ _ _ _ (by omega)] at h1 h2
  rw [show j * 2 / 2 = j by omega, show j * 2 % 2 = 0 by omega] at h1
  rw [show (j * 2 + 1) / 2 = j by omega, show (j * 2 + 1) % 2 = 1 by omega] at h2
  rw [e]
  exact ⟨h1, h2⟩
theorem sorted_any (b : Nat) (L : List Sn) (v : Value) (w : World) (hO : w.ownsRow b 41 2 v L.length (celS L)) (hl : L.length ≤ 17592186044416) : Calls Try.prog 29 #[v, .func (.func 30) #[] #[]] w fun e w' => e = .returned (.tuple #[]) ∧ ∃ L' : List Sn, L'.Perm L ∧ L'.Pairwise (fun s t => s.1 ≤ t.1) ∧ RdS w' v L' ∧ w.heap.size ≤ w'.heap.size ∧ (b ≤ w.heap.size → RowKit.Below b w w') := by
  obtain ⟨a, c, rfl, hc, hn⟩ := owns_slice hO
  by_cases h0 : 0 < L.length
  · obtain ⟨g, rfl⟩ := hn h0
    have hg := hO.lt g rfl
    have hH := holds_of hO
    have k := sort_any g 0 c L.toArray w hH hg.2 (by simp; omega)
    rw [List.size_toArray] at k
    refine k.mono ?_
    rintro e w' ⟨rfl, d', n, os, ⟨hs, _, hp⟩, hsort, rfl⟩
    replace hs : d'.size = L.length := by simpa using hs
    have hp2 : d'.toList.Perm L := by
      have e1 : (d'.extract 0 L.length).toList = d'.toList := by rw [← hs]; simp
      have e2 : (L.toArray.extract 0 L.length).toList = L := by simp
      rwa [e1, e2] at hp
    have hh : HoldsK encS 2 (sortWorldK encS 2 w g 0 n d' os) g 0 d' := (SWK.holds (W := sortWorldK encS 2 w g 0 n d' os) ⟨n, os, rfl⟩ hg.2 hH (by simpa using hs))
    have hgr : w.grownBy (sortWorldK encS 2 w g 0 n d' os) (some g) := by
      refine ⟨rfl, rfl, rfl, by simp [sortWorldK, putRowK, grow], fun k hk hne => ?_⟩
      have : g ≠ k := fun e => hne (by rw [e])
      unfold sortWorldK
      rw [heap_grow_old _ _ (by simpa [putRowK] using hk)]
      simp [putRowK, putRow, mapBlock, Sort.ahead, Array.getElem?_modify, this]
    refine ⟨rfl, d'.toList, hp2, ?_, ?_, hgr.size, fun hb => (RowKit.Below.refl b w).grown hgr hb (fun j hj => by cases hj; exact hg.1)⟩
    · rw [List.pairwise_iff_getElem]
      intro i j hi hj hij
      have hj' : j < d'.size := by simpa using hj
      have h1 := hsort i j (Nat.zero_le _) hij (by omega)
      rw [ltLo] at h1
      have h2 := of_decide_eq_false h1
      have e1 : d'[i]! = d'.toList[i] := by simp [show i < d'.size by omega]
      have e2 : d'[j]! = d'.toList[j] := by simp [hj']
      rw [e1, e2] at h2
      omega
    · have := rd_of_holds hh (c := c) (by omega)
      rwa [hs] at this
  · have h00 : L = [] := List.eq_nil_of_length_eq_zero (by omega)
    subst h00
    refine (sort_none a c _ w).mono ?_
    rintro e w' ⟨rfl, rfl⟩
    exact ⟨rfl, [], List.Perm.refl _, List.Pairwise.nil, ⟨a, c, rfl, hc, fun h => by simp at h⟩, Nat.le_refl _, fun _ => RowKit.Below.refl _ _⟩
end Go.Proofs.Ytddoanmhikldiab
