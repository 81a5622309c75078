/-
  The contract of the document's Decode: what the parts of a text say, how many coded bytes there are, and where the stray signs stand. Condition: the list of places takes no more bytes than one can.
-/
import Derived.Test.YtoliiccmfmgmlaaDoorRdc
import Derived.RangeFuncBox
import Derived.Maps.AppendAt
namespace Go.Proofs.YtoliiccmfmgmlaaDoor
open Go.RowKit
theorem owns_apart {W : World} {b e size n b' e' size' n' : Nat} {v v' : Value} {xs xs' : List Value} (h : W.ownsRow b e size v n xs) (h' : W.ownsRow b' e' size' v' n' xs') (hne : e ≠ e') : v.ownBlock = none ∨ v.ownBlock ≠ v'.ownBlock := by
  obtain ⟨h1, ⟨rfl, _⟩ | ⟨g, cap, cur, rfl, h3, h4, h5⟩⟩ := h
  · exact .inl rfl
  · obtain ⟨k1, ⟨rfl, _⟩ | ⟨g', cap', cur', rfl, k3, k4, k5⟩⟩ := h'
    · exact .inr (by simp [Value.ownBlock])
    · refine .inr fun q => ?_
      simp [Value.ownBlock] at q
      subst q
      rw [h4] at k4
      simp at k4
      exact hne k4.2
theorem owns_below {W W' : World} {b e size n : Nat} {v : Value} {xs : List Value} (h : W.ownsRow b e size v n xs) (hb : Below W.heap.size W W') : W'.ownsRow b e size v n xs := by
  refine h.kept (row := none) ⟨hb.os, hb.tape, hb.output, hb.size, fun k hk _ => hb.block k hk⟩ ?_
  cases hv : v.ownBlock with
  | none => exact .inl rfl
  | some g => exact .inr (by simp)
theorem own_empty (w : World) (e : TypeId) : (w.alloc (.cells #[] e)).ownsRow w.heap.size e 1 (.slice (some ⟨w.heap.size, 0, none⟩) 0 0) 0 [] := ⟨rfl, .inr ⟨_, _, _, rfl, Nat.le_refl _, World.alloc_heap_new _ _, by simp, by decide, rfl, rfl⟩⟩
theorem string_own {P : Program} {wr : World} {base : Nat} {v : Value} {zs : List Int} (src e dst : TypeId) (h : wr.ownsRow base e 1 v zs.length (zs.map fun z => Value.int .u8 z)) (hs : P.underlying src = some (.slice e)) (he : P.underlying e = some (.int .u8)) (hd : P.underlying dst = some .string) :
    (convert src dst v).run P wr = .ok (.string (strOfNums zs)) wr := by
  obtain ⟨hl, h | ⟨g, cap, cur, rfl, hb, hg, hn, hc, hz, ht⟩⟩ := h
  · obtain ⟨rfl, hz⟩ := h
    have : zs = [] := List.eq_nil_of_length_eq_zero hz
    subst this
    exact run_convert_bytes_nil wr src e hs he 0 0 dst hd
  · refine run_convert_bytes_arg wr src e hs he g 0 zs.length cap zs rfl (fun i hi => ?_) dst hd
    have e1 : cur.toList[i]? = (zs.map fun z => Value.int .u8 z)[i]? := by
      rw [← ht, List.getElem?_take_of_lt (by omega)]
    have e2 : wr.cell? ⟨g, i, none⟩ = cur[i]? := by simp [World.cell?, hg]
    rw [Nat.zero_add, e2, ← Array.getElem?_toList, e1]
    simp [List.getD, List.getElem?_eq_getElem hi]
/-- What the parts say, as numbers; how many are coded. -/
def sys (s : ByteArray) (l : List Nat) : List Int := l.map fun k => (sy s k : Int)
def cnt (s : ByteArray) (l : List Nat) : Nat := (l.filter (cd s)).length
theorem str_sys (s : ByteArray) : strOfNums (sys s (poss s)) = decB s := by
  apply ByteArray.ext
  show ((sys s (poss s)).map fun n => UInt8.ofNat n.toNat).toArray = (says s (poss s)).toArray
  simp [sys, says]
theorem strs_len (s : ByteArray) (l : List Nat) : (strs s l).length ≤ l.length := by
  simp only [strs, List.length_map]; exact List.length_filter_le _ _
theorem info5' : (Tryd.prog.info? 5).map (fun i => (i.zero, i.size, i.bytes)) = some (some (.int .u8 0), 1, 1) := by kernel_rfl
theorem info3 : (Tryd.prog.info? 3).map (fun i => (i.zero, i.size, i.bytes)) = some (some (.int .i64 0), 1, 8) := by kernel_rfl
/-- What holds at the head of each round. -/
def RdIn (s : ByteArray) (w : World) (k : Nat) (o n t : Value) (wr : World) : Prop :=
  ∃ pre, poss s = pre ++ posAt s k ∧ pre.length ≤ k ∧ n = .int .i64 (cnt s pre) ∧ wr.ownsRow w.heap.size 5 1 o (sys s pre).length ((sys s pre).map fun z => Value.int .u8 z) ∧
    wr.ownsRow w.heap.size 3 1 t (strs s pre).length ((strs s pre).map fun z => Value.int .i64 z) ∧ Below w.heap.size w wr
set_option maxRecDepth 100000 in
set_option maxHeartbeats 2000000 in
theorem rdecode_any (s : ByteArray) (w : World) (hs : s.size ≤ 17592186044416) :
    Calls Tryd.prog 18 #[.string s] w fun e W' => ∃ v, e = .returned (.tuple #[.string (decB s), .int .i64 (cnt s (poss s)), v]) ∧ W'.ownsRow w.heap.size 3 1 v (strs s (poss s)).length ((strs s (poss s)).map fun z => Value.int .i64 z) ∧ Below w.heap.size w W' := by
  obtain ⟨i5, hi, hz0, hz1, hz2⟩ := info_parts info5'
  obtain ⟨i3, hj, hy0, hy1, hy2⟩ := info_parts info3
  have o1 := (own_empty w 5).alloc (.cells #[] 3)
  have o2 := own_empty (w.alloc (.cells #[] 5)) 3
  have b2 : Below w.heap.size w ((w.alloc (.cells #[] 5)).alloc (.cells #[] 3)) := ((Below.refl _ w).alloc (Nat.le_refl _) _).alloc (by simp) _
  have o3 : ((w.alloc (.cells #[] 5)).alloc (.cells #[] 3)).ownsRow w.heap.size 3 1 (.slice (some ⟨w.heap.size + 1, 0, none⟩) 0 0) 0 [] := ⟨rfl, .inr ⟨_, _, _, rfl, by omega, by have := World.alloc_heap_new (w.alloc (.cells #[] 5)) (.cells #[] 3); rwa [World.size_alloc] at this, by simp, by decide, rfl, rfl⟩⟩
  have H0 : Hid (RdIn s w 0 (.slice (some ⟨w.heap.size, 0, none⟩) 0 0) (.int .i64 0) (.slice (some ⟨w.heap.size + 1, 0, none⟩) 0 0) ((w.alloc (.cells #[] 5)).alloc (.cells #[] 3))) := ⟨[], rfl, Nat.le_refl _, rfl, o1, o3, b2⟩
  clear o1 o2 o3 b2
  go_enter Tryd.func18, Tryd.ntmps18
  go_wp2
  go_loopw [5, 6, 7, 8] (fun o n t i wr => ∃ k : Nat, i = .int .i64 k ∧ k ≤ s.size ∧ Hid (RdIn s w k o n t wr)) (fun _ _ _ i _ => s.size - (intOf i).toNat)
  case atStart => exact ⟨0, rfl, Nat.zero_le _, H0⟩
  case round =>
    clear H0
    obtain ⟨k, rfl, hk, HI⟩ := hrel
    obtain ⟨pre, hx, hpl, rfl, ho, ht, hB⟩ := HI.out
    clear HI
    by_cases hlt : k < s.size
    · have hlti : (k : Int) < (s.size : Int) := by omega
      rw [posAt_cons s k hlt] at hx
      have kc := rcoded_any s k wr (by omega) hlt
      have hp := pz_le s k hlt
      have hsl : (sys s pre).length = pre.length := by simp [sys]
      have htl := strs_len s pre
      have hsz := hB.size
      have q0 : (s[k]'hlt).toNat = byt s k := byt_eq s k hlt
      have hcl : cnt s pre ≤ pre.length := List.length_filter_le _ _
      have HX : Hid (poss s = pre ++ k :: posAt s (k + pz s k)) := hx
      have HO : Hid (wr.ownsRow w.heap.size 5 1 u5 (sys s pre).length ((sys s pre).map fun z => Value.int .u8 z)) := ho
      have HT : Hid (wr.ownsRow w.heap.size 3 1 u7 (strs s pre).length ((strs s pre).map fun z => Value.int .i64 z)) := ht
      have HB : Hid (Below w.heap.size w wr) := hB
      clear hx ho ht hB
      cases hc : cd s k
      · rw [hc] at kc
        have hz : pz s k = 1 := if_neg (by rw [hc]; decide)
        have hsy : sy s k = byt s k := if_neg (by rw [hc]; decide)
        by_cases h37 : byt s k = 37
        · have hsr : sr s k = true := by simp [sr, hc, h37]
          have fin : ∀ (v1 : Value) (w1 : World) (v2 : Value) (w2 : World), w1.ownsRow w.heap.size 3 1 v1 ((strs s pre).length + 1) (((strs s pre).map fun z => Value.int .i64 z) ++ [.int .i64 k]) → (wr.alloc (.cells #[.int .i64 k] 3)).grownBy w1 u7.ownBlock → w2.ownsRow w.heap.size 5 1 v2 (pre.length + 1) (((sys s pre).map fun z => Value.int .u8 z) ++ [.int .u8 37]) → (w1.alloc (.cells #[.int .u8 37] 5)).grownBy w2 u5.ownBlock → Hid (RdIn s w (k + 1) v2 (.int .i64 (cnt s pre)) v1 w2) := by
            intro v1 w1 v2 w2 ht' hg1 ho' hg2
            have e1 : sys s (pre ++ [k]) = sys s pre ++ [(37 : Int)] := by simp [sys, hsy, h37]
            have e2 : strs s (pre ++ [k]) = strs s pre ++ [(k : Int)] := by simp [strs, hsr]
            have e3 : cnt s (pre ++ [k]) = cnt s pre := by simp [cnt, hc]
            have ho1 := (HO.out.alloc (.cells #[.int .i64 k] 3)).kept hg1 (owns_apart HO.out HT.out (by decide))
            refine ⟨pre ++ [k], by rw [HX.out, hz]; simp, by simp; omega, by rw [e3], by rw [e1]; simpa [hsl] using ho', by rw [e2]; simpa using (ht'.alloc _).kept hg2 (owns_apart ht' ho1 (by decide)), ?_⟩
            have hb1 := (HB.out.alloc hsz (.cells #[.int .i64 k] 3)).grown hg1 (by simp; omega) (fun j hj => (HT.out.lt j hj).1)
            exact (hb1.alloc hb1.size _).grown hg2 (by have := hb1.size; simp; omega) (fun j hj => (HO.out.lt j hj).1)
          have HFIN : Hid _ := fin
          have hown1 : Hid (∀ (v1 : Value) (w1 : World), (wr.alloc (.cells #[.int .i64 k] 3)).grownBy w1 u7.ownBlock → w1.ownsRow w.heap.size 5 1 u5 (sys s pre).length ((sys s pre).map fun z => Value.int .u8 z) ∧ w.heap.size ≤ w1.heap.size) := fun v1 w1 hg1 => ⟨(HO.out.alloc _).kept hg1 (owns_apart HO.out HT.out (by decide)), by have := hg1.size; simp at this; omega⟩
          rw [h37] at q0
          clear fin hc HX HB h37 hsy hsr HO
          have hcn := cell_one_new wr (.int .i64 k) 3
          go_wp2_with (first | (go_at_call 33; refine kc.mono ?_; rintro e w' ⟨rfl, rfl⟩) | (at_builtin; (refine wpList_append_own _ rfl _ _ 38 rfl w.heap.size 3 i3 (.int .i64 0) 1 8 Tryd.underlying38 hj hy0 hy1 hy2 rfl (by decide) _ _ _ rfl (HT.out.alloc _) ⟨_, 0, none⟩ 1 1 [.int .i64 k] rfl rfl hcn ?c2 ?c3 ?c4 ?c5 ?_)))
          case c2 => intro u hu; simp at hu; subst hu; rfl
          case c3 => unfold maxLen; omega
          case c4 => omega
          case c5 => simp; omega
          intro v1 w1 ht' hg1 _
          obtain ⟨ho1, hz1⟩ := hown1.out v1 w1 hg1
          have HFIN2 : Hid _ := fun v2 w2 => HFIN.out v1 w1 v2 w2 ht' hg1
          have hcn2 := cell_one_new w1 (.int .u8 37) 5
          clear HFIN hown1 ht' hg1 HT hcn
          go_wp2_with (at_builtin; (refine wpList_append_own _ rfl _ _ 37 rfl w.heap.size 5 i5 (.int .u8 0) 1 1 Tryd.underlying37 hi hz0 ‹i5.size = 1› hz2 rfl (by decide) _ _ _ rfl (ho1.alloc _) ⟨_, 0, none⟩ 1 1 [.int .u8 37] rfl rfl hcn2 ?c2 ?c3 ?c4 ?c5 ?_))
          case c2 => intro u hu; simp at hu; subst hu; rfl
          case c3 => unfold maxLen; omega
          case c4 => omega
          case c5 => simp; omega
          intro v2 w2 ho' hg2 _
          have HF := HFIN2.out v2 w2 ho' hg2
          clear HFIN2 ho' hg2 ho1
          go_wp2
          exact ⟨⟨k + 1, by go_num, by omega, HF⟩, by simp [intOf]; omega⟩
        · have hsr : sr s k = false := by simp [sr, hc, h37]
          have hne : ((byt s k : Int) == 37) = false := beq_false_of_ne (by omega)
          have fin : ∀ (v' : Value) (w1 : World), w1.ownsRow w.heap.size 5 1 v' (pre.length + 1) (((sys s pre).map fun z => Value.int .u8 z) ++ [.int .u8 (byt s k)]) → (wr.alloc (.cells #[.int .u8 (byt s k)] 5)).grownBy w1 u5.ownBlock → Hid (RdIn s w (k + 1) v' (.int .i64 (cnt s pre)) u7 w1) := by
            intro v' w1 ho' hg
            have e1 : sys s (pre ++ [k]) = sys s pre ++ [(byt s k : Int)] := by simp [sys, hsy]
            have e2 : strs s (pre ++ [k]) = strs s pre := by simp [strs, hsr]
            have e3 : cnt s (pre ++ [k]) = cnt s pre := by simp [cnt, hc]
            have hap := owns_apart HT.out HO.out (by decide)
            refine ⟨pre ++ [k], by rw [HX.out, hz]; simp, by simp; omega, by rw [e3], by rw [e1]; simpa [hsl] using ho', by rw [e2]; exact (HT.out.alloc _).kept hg hap, ?_⟩
            exact (HB.out.alloc hsz _).grown hg (by simp; omega) (fun j hj => (HO.out.lt j hj).1)
          have HFIN : Hid _ := fin
          obtain ⟨Y, hY⟩ : ∃ Y, byt s k = Y := ⟨_, rfl⟩
          rw [hY] at q0 hne HFIN
          clear fin hc HX HB h37 hsy hsr HT hY
          have hcn := cell_one_new wr (.int .u8 Y) 5
          go_wp2_with (first | (go_at_call 33; refine kc.mono ?_; rintro e w' ⟨rfl, rfl⟩) | (at_builtin; (refine wpList_append_own _ rfl _ _ 37 rfl w.heap.size 5 i5 (.int .u8 0) 1 1 Tryd.underlying37 hi hz0 hz1 hz2 rfl (by decide) _ _ _ rfl (HO.out.alloc _) ⟨_, 0, none⟩ 1 1 [.int .u8 Y] rfl rfl hcn ?c2 ?c3 ?c4 ?c5 ?_)))
          case c2 => intro u hu; simp at hu; subst hu; rfl
          case c3 => unfold maxLen; omega
          case c4 => omega
          case c5 => simp; omega
          intro v' w1 ho' hg _
          have HF := HFIN.out v' w1 ho' hg
          clear HFIN ho' hg HO
          go_wp2
          exact ⟨⟨k + 1, by go_num, by omega, HF⟩, by simp [intOf]; omega⟩
      · rw [hc] at kc
        have ks := rsays_any s k wr (by omega) hc
        have hz : pz s k = 3 := if_pos hc
        have fin : ∀ (wq : World) (v' : Value) (w1 : World), Below wr.heap.size wr wq → w1.ownsRow w.heap.size 5 1 v' (pre.length + 1) (((sys s pre).map fun z => Value.int .u8 z) ++ [.int .u8 (sy s k)]) → (wq.alloc (.cells #[.int .u8 (sy s k)] 5)).grownBy w1 u5.ownBlock → Hid (RdIn s w (k + 3) v' (.int .i64 (cnt s pre + 1 : Nat)) u7 w1) := by
          intro wq v' w1 hq ho' hg
          have e1 : sys s (pre ++ [k]) = sys s pre ++ [(sy s k : Int)] := by simp [sys]
          have e2 : strs s (pre ++ [k]) = strs s pre := by simp [strs, sr, hc]
          have e3 : cnt s (pre ++ [k]) = cnt s pre + 1 := by simp [cnt, hc]
          have hto := owns_below HT.out hq
          have hoo := owns_below HO.out hq
          have hap := owns_apart hto hoo (by decide)
          refine ⟨pre ++ [k], by rw [HX.out, hz]; simp, by simp; omega, by rw [e3], by rw [e1]; simpa [hsl] using ho', by rw [e2]; exact (hto.alloc _).kept hg hap, ?_⟩
          have hq2 := HB.out.trans (hq.mono hsz)
          exact (hq2.alloc (by have := hq.size; omega) _).grown hg (by have := hq.size; simp; omega) (fun j hj => (hoo.lt j hj).1)
        have HFIN : Hid _ := fin
        obtain ⟨Y, hY⟩ : ∃ Y, sy s k = Y := ⟨_, rfl⟩
        rw [hY] at ks HFIN
        clear fin hY hc HX HB HT
        go_wp2_with (first | (go_at_call 33; refine kc.mono ?_; rintro e w' ⟨rfl, rfl⟩) | (go_at_call 34; refine ks.mono ?_))
        rintro e wq ⟨rfl, hq⟩
        have hoq := owns_below HO.out hq
        have hqz := hq.size
        have hcn := cell_one_new wq (.int .u8 Y) 5
        go_wp2_with (at_builtin; (refine wpList_append_own _ rfl _ _ 37 rfl w.heap.size 5 i5 (.int .u8 0) 1 1 Tryd.underlying37 hi hz0 hz1 hz2 rfl (by decide) _ _ _ rfl (hoq.alloc _) ⟨_, 0, none⟩ 1 1 [.int .u8 Y] rfl rfl hcn ?c2 ?c3 ?c4 ?c5 ?_))
        case c2 => intro u hu; simp at hu; subst hu; rfl
        case c3 => unfold maxLen; omega
        case c4 => omega
        case c5 => simp; omega
        intro v' w1 ho' hg _
        have HF := HFIN.out wq v' w1 hq ho' hg
        clear HFIN ho' hg hoq HO
        go_wp2
        exact ⟨⟨k + 3, by go_num, by omega, HF⟩, by simp [intOf]; omega⟩
    · have hlti : ¬ (k : Int) < (s.size : Int) := by omega
      rw [posAt_nil s k hlt, List.append_nil] at hx
      have hcv := string_own (P := Tryd.prog) 37 5 9 ho Tryd.underlying37 Tryd.underlying5 Tryd.underlying9
      have HX : Hid (poss s = pre) := hx
      have HT : Hid (wr.ownsRow w.heap.size 3 1 u7 (strs s pre).length ((strs s pre).map fun z => Value.int .i64 z)) := ht
      have HE : Hid (strOfNums (sys s pre) = decB s) := by rw [← hx]; exact str_sys s
      have HB : Hid (Below w.heap.size w wr) := hB
      clear ho ht hB hx
      go_wp2
      refine bodyPost_ret (v := .tuple #[.string (strOfNums (sys s pre)), .int .i64 (cnt s pre), u7]) (by simp [results, Tryd.results18, go_sem]) rfl ⟨u7, by rw [HE.out, HX.out], by rw [HX.out]; exact HT.out, HB.out⟩
end Go.Proofs.YtoliiccmfmgmlaaDoor
