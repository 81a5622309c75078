/-
  The contracts of a Decoder: Feed tells what is sure of what was held and the text, and holds the rest; End; Held; the document's Held. Conditions: what is held and the text are together no longer than a text that comes in can be; the library's two tables hold what their text lays.
-/
import Derived.Test.YtabofadjnbpjkabDoorFm
import Derived.Test.YtabofadjnbpjkabDoorRd
import Derived.Stop.RegionWithIn
namespace Go.Proofs.YtabofadjnbpjkabDoor
open Go.RowKit Go.Lib Go.Shelf
attribute [local go_sem] Oper.semAt_some
/-- A decoder that holds h lies in block b. -/
def DecAt (w : World) (b : Nat) (h : ByteArray) : Prop := w.heap[b]? = some (.cells #[.string h] 67 (0, 0))
theorem DecAt.lt {w : World} {b : Nat} {h : ByteArray} (d : DecAt w b h) : b < w.heap.size := (Array.getElem?_eq_some_iff.1 d).1
theorem DecAt.cell {w : World} {b : Nat} {h : ByteArray} (d : DecAt w b h) : w.cell? ⟨b, 0, none⟩ = some (.string h) := by simp [World.cell?, show w.heap[b]? = _ from d]
theorem DecAt.frozen {w : World} {b : Nat} {h : ByteArray} (d : DecAt w b h) : w.frozen? ⟨b, 0, none⟩ = false := by simp [World.frozen?, show w.heap[b]? = _ from d]
theorem DecAt.set {w : World} {b : Nat} {h : ByteArray} (d : DecAt w b h) (h' : ByteArray) : DecAt (w.setCell ⟨b, 0, none⟩ (.string h')) b h' := by
  unfold DecAt
  have := show w.heap[b]? = _ from d
  simp [World.setCell, Array.getElem?_modify, this]
theorem DecAt.below {w w' : World} {b : Nat} {h : ByteArray} (d : DecAt w b h) (hb : Below w.heap.size w w') : DecAt w' b h := (hb.block b d.lt).trans d
theorem grown_set (w : World) (b : Nat) (v : Value) : w.grownBy (w.setCell ⟨b, 0, none⟩ v) (some b) := ⟨rfl, rfl, rfl, by simp [World.setCell], fun k _ hk => Below.heap_setCell _ _ _ _ (fun e => hk (by simp [e]))⟩
theorem grown_below {w w' : World} {row : Option Nat} (h : Below w.heap.size w w') : w.grownBy w' row := ⟨h.os, h.tape, h.output, h.size, fun k hk _ => h.block k hk⟩
theorem grown_trans {a b c : World} {row : Option Nat} (h : a.grownBy b row) (k : b.grownBy c row) : a.grownBy c row := ⟨k.os.trans h.os, k.tape.trans h.tape, k.output.trans h.output, Nat.le_trans h.size k.size, fun j hj hn => (k.block j (Nat.lt_of_lt_of_le hj h.size) hn).trans (h.block j hj hn)⟩
theorem held_any (b : Nat) (h : ByteArray) (w : World) (d : DecAt w b h) : Calls Tryd.prog 20 #[.pointer (some ⟨b, 0, none⟩)] w fun e w' => e = .returned (.string h) ∧ w' = w := by
  have hc := d.cell
  go_enter Tryd.func20, Tryd.ntmps20
  go_wp2
  go_ret
  exact ⟨rfl, rfl⟩
theorem held_nil (w : World) : Calls Tryd.prog 20 #[.pointer none] w fun e w' => e = .returned (.string ⟨#[]⟩) ∧ w' = w := by
  go_enter Tryd.func20, Tryd.ntmps20
  go_wp2
  go_ret
  exact ⟨rfl, rfl⟩
theorem end_nil (w : World) : Calls Tryd.prog 19 #[.pointer none] w fun e w' => e = .returned (.slice none 0 0) ∧ w' = w := by
  go_enter Tryd.func19, Tryd.ntmps19
  go_wp2
  go_ret
  exact ⟨rfl, rfl⟩
theorem feed_nil (p : ByteArray) (w : World) : Calls Tryd.prog 18 #[.pointer none, .string p] w fun e w' => e = .returned (.slice none 0 0) ∧ Below w.heap.size w w' := by
  refine (callsIn_wide (n := 9)).1 ?_
  refine callsIn_of_wp_marks Tryd.func18 rfl trivial ?_ rfl
  simp only [Tryd.ntmps18, List.size_toArray, List.length_cons, List.length_nil, Nat.reduceAdd, Nat.reduceSub, Array.replicate_succ, Array.replicate_zero, List.push_toArray, List.append_toArray, List.nil_append, List.cons_append]
  gi_wp2
  exact ⟨_, results_tmp rfl _ _ _, rfl, (Below.refl _ w).alloc (Nat.le_refl _) _⟩
/-- What End answers of what is held. -/
def endL (h : ByteArray) : List Int := if h.size = 0 then [] else [65533]
theorem end_any (b : Nat) (h : ByteArray) (w : World) (d : DecAt w b h) : Calls Tryd.prog 19 #[.pointer (some ⟨b, 0, none⟩)] w fun e w' => ∃ v, e = .returned v ∧ ((v = .slice none 0 0 ∧ endL h = []) ∨ ∃ g, v = .slice (some ⟨g, 0, none⟩) 1 1 ∧ w'.cell? ⟨g, 0, none⟩ = some (.int .i32 65533) ∧ endL h = [65533]) ∧ DecAt w' b ⟨#[]⟩ ∧ w.grownBy w' (some b) := by
  have hc := d.cell
  have hf := d.frozen
  by_cases h0 : h.size = 0
  · have e : h = ⟨#[]⟩ := text_ext _ _ h0 (fun j hj => by omega)
    subst e
    have D : Hid (DecAt w b ⟨#[]⟩) := d
    clear d
    go_enter Tryd.func19, Tryd.ntmps19
    go_wp2
    go_ret
    exact ⟨_, rfl, .inl ⟨rfl, rfl⟩, D.out, grown_below (Below.refl _ _)⟩
  · have hne : h.toList.isEmpty = false := by
      cases hq : h.toList.isEmpty
      · rfl
      · exfalso
        rw [ByteArray.toList_eq] at hq
        have hq' : h.data = #[] := by simpa using hq
        exact h0 (by show h.data.size = 0; rw [hq']; rfl)
    have hl : Hid (endL h = [65533]) := if_neg h0
    have F : Hid (DecAt (w.setCell ⟨b, 0, none⟩ (.string ⟨#[]⟩)) b ⟨#[]⟩ ∧ w.grownBy (w.setCell ⟨b, 0, none⟩ (.string ⟨#[]⟩)) (some b)) := ⟨d.set _, grown_set _ _ _⟩
    clear d
    go_enter Tryd.func19, Tryd.ntmps19
    go_wp2
    go_ret
    have e1 : (w.setCell ⟨b, 0, none⟩ (.string ⟨#[]⟩)).heap.size = w.heap.size := by simp [World.setCell]
    exact ⟨_, rfl, .inr ⟨_, rfl, World.cell?_alloc_at (w := w.setCell ⟨b, 0, none⟩ (.string ⟨#[]⟩)) #[.int .i32 65533] 21 w.heap.size 0 e1.symm, hl.out⟩, F.out.1.below ((Below.refl _ _).alloc (Nat.le_refl _) _), grown_trans F.out.2 (grown_below ((Below.refl _ _).alloc (Nat.le_refl _) _))⟩
theorem clone_any (s : ByteArray) (w : World) (hlim : s.size ≤ 281474976710656) : Calls Tryd.prog 37 #[.string s] w fun e w' => e = .returned (.string s) ∧ Below w.heap.size w w' := by
  have key := Tryd.stringslite_Clone s w hlim
  go_enter Tryd.func37, Tryd.ntmps37
  go_wp2_with (go_at_call 51; refine key.mono ?_; rintro e w' ⟨rfl, hb⟩)
  go_ret
  exact ⟨rfl, hb⟩
theorem ret_str {a b : ByteArray} (h : a = b) : Ending.returned (.string a) = .returned (.string b) := by rw [h]
/-- The last piece tells what is held. -/
theorem held_last (s : ByteArray) (q : Nat) (l : List Nat) (h : poss s = l ++ [q]) : q < s.size ∧ ((pWr s q = true ∧ pSt s q < szN (byt s q)) → hd s = s.extract q s.size) ∧ (¬ (pWr s q = true ∧ pSt s q < szN (byt s q)) → hd s = ⟨#[]⟩) := by
  have hq : q < s.size := (posAt_ge s _ 0 (Nat.le_refl _) q (by show q ∈ poss s; rw [h]; simp)).2
  obtain ⟨e1, e2⟩ := end_next s (l ++ [q]) 0 [] (Nat.zero_le _) (by rw [List.append_nil]; exact h)
  have e3 : endFrom s 0 (l ++ [q]) = q + pSt s q := by simp [endFrom]
  rw [e3] at e1 e2
  have e4 : q + pSt s q = s.size := by
    by_cases c : q + pSt s q < s.size
    · rw [posAt_cons s _ c] at e1; cases e1
    · omega
  have hu := un_is s q hq
  refine ⟨hq, fun hc => ?_, fun hc => ?_⟩
  · have hun := hu.2 ⟨e4, hc.2⟩
    rcases ct_cases s with ⟨_, _, h3⟩ | ⟨_, _, h3, _⟩
    · rw [h3 q (by rw [h]; simp)] at hun; cases hun
    · rw [h] at h3
      have := (List.append_inj' h3 rfl).2
      have hct : q = ct s := by simpa using this
      unfold hd; rw [← hct]
  · have hun : un s q = false := by
      cases c : un s q
      · rfl
      · have := hu.1 c
        exact absurd ⟨wrong_un s q hq c, this.2⟩ hc
    rcases ct_cases s with ⟨h1, _, _⟩ | ⟨_, h2, h3, _⟩
    · refine text_ext _ _ ?_ (fun j hj => ?_)
      · rw [hd_size, h1, Nat.sub_self]; rfl
      · rw [hd_size, h1] at hj; omega
    · rw [h] at h3
      have := (List.append_inj' h3 rfl).2
      have hct : q = ct s := by simpa using this
      rw [← hct, hun] at h2; cases h2
theorem hd_nil (s : ByteArray) (h : poss s = []) : hd s = ⟨#[]⟩ := by
  have h0 : ¬ 0 < s.size := fun c => by unfold poss at h; rw [posAt_cons s 0 c] at h; cases h
  refine text_ext _ _ ?_ (fun j hj => ?_)
  · have := hd_size s; show (hd s).size = 0; omega
  · have := hd_size s; omega
set_option maxRecDepth 100000 in
set_option maxHeartbeats 2000000 in
theorem rheld_any (s : ByteArray) (w : World) (hs : s.size ≤ 5864062010000) :
    Calls Tryd.prog 35 #[.string s] w fun e w' => e = .returned (.string (hd s)) ∧ Below w.heap.size w w' := by
  have key := rpieces_any s w hs
  have hlen : (poss s).length ≤ s.size := posAt_len s s.size 0 (by omega)
  by_cases hn : poss s = []
  · have E : Hid (hd s = ⟨#[]⟩) := hd_nil s hn
    rw [hn] at key
    go_enter Tryd.func35, Tryd.ntmps35
    go_wp2_with fail
    refine key.mono ?_
    rintro e w1 ⟨v1, rfl, hp, hb⟩
    obtain ⟨a1, c1, rfl, _⟩ := owns_slice hp
    clear hp key
    go_wp2
    go_ret
    exact ⟨ret_str E.out.symm, hb⟩
  · obtain ⟨l, q, hl⟩ : ∃ l q, poss s = l ++ [q] := ⟨_, _, (List.dropLast_concat_getLast hn).symm⟩
    obtain ⟨hq, E1, E2⟩ := held_last s q l hl
    have hm : (poss s).length = l.length + 1 := by rw [hl]; simp
    have hat : (poss s)[l.length]? = some q := by rw [hl]; simp
    have h1 := pcsC_at s 0 (by omega) _ _ _ hat
    have h2 := pcsC_at s 1 (by omega) _ _ _ hat
    have h3 := pcsC_at s 2 (by omega) _ _ _ hat
    have h4 := pcsC_at s 3 (by omega) _ _ _ hat
    obtain ⟨cs, hcs⟩ : ∃ cs, pcsC s (poss s) = cs := ⟨_, rfl⟩
    rw [hm, hcs] at key
    rw [hcs] at h1 h2 h3 h4
    rw [hm] at hlen
    clear hl hat hn hm hcs
    obtain ⟨m, hm⟩ : ∃ m, l.length = m := ⟨_, rfl⟩
    rw [hm] at key h1 h2 h3 h4 hlen
    clear hm
    have hqi : (q : Int) < (s.size : Int) := by omega
    have hbq : (s[q]'hq).toNat = byt s q := byt_eq s q hq
    have kb := fun w => begins_any (byt s q) w (byt_lt s q)
    obtain ⟨B, hB⟩ : ∃ B, byt s q = B := ⟨_, rfl⟩
    rw [hB] at hbq kb E1 E2
    obtain ⟨Z, hZ⟩ : ∃ Z, szN B = Z := ⟨_, rfl⟩
    obtain ⟨S, hS⟩ : ∃ S, pSt s q = S := ⟨_, rfl⟩
    obtain ⟨R, hR⟩ : ∃ R, pRu s q = R := ⟨_, rfl⟩
    obtain ⟨Lo, hLo⟩ : ∃ S, loR B = S := ⟨_, rfl⟩
    obtain ⟨Hi, hHi⟩ : ∃ S, hiR B = S := ⟨_, rfl⟩
    unfold pcs at h1 h2 h3 h4
    rw [hZ] at kb E1 E2; rw [hLo, hHi] at kb; rw [hS] at E1 E2 h1 h2 h3 h4; rw [hR] at h1 h2 h3 h4
    clear hB hZ hS hR hLo hHi
    have t1 : ((m : Int) + 1 - 1) = m := by omega
    have t2 : ((m + 1 : Nat) : Int) - 1 = m := by omega
    have t3 : (((m + 1 : Nat) : Int) == 0) = false := beq_false_of_ne (by omega)
    cases hw : pWr s q
    · rw [hw] at h1 h2 h3 h4 E1 E2
      have E : Hid (hd s = ⟨#[]⟩) := E2 (by simp)
      clear E1 E2 hw
      go_enter Tryd.func35, Tryd.ntmps35
      go_wp2_with fail
      refine key.mono ?_
      rintro e w1 ⟨v1, rfl, hp, hb⟩
      obtain ⟨a1, c1, rfl, hx⟩ := owns_slice hp
      obtain ⟨g, rfl⟩ := hx (by omega)
      have c0 : w1.cell? ⟨g, m * 4, none⟩ = some (.int .i64 q) := owns_cell hp rfl _ _ (h1.trans rfl)
      have c1' : w1.cell? ⟨g, m * 4 + 1, none⟩ = some (.int .i64 S) := owns_cell hp rfl _ _ (h2.trans rfl)
      have c2 : w1.cell? ⟨g, m * 4 + 2, none⟩ = some (.int .i32 R) := owns_cell hp rfl _ _ (h3.trans rfl)
      have c3 : w1.cell? ⟨g, m * 4 + 3, none⟩ = some (.bool false) := owns_cell hp rfl _ _ (h4.trans rfl)
      clear hp key h1 h2 h3 h4 hx
      go_wp2_with (go_at_call 49; refine (kb _).mono ?_; rintro e w' ⟨rfl, rfl⟩)
      go_ret
      exact ⟨ret_str E.out.symm, hb.alloc hb.size _⟩
    · rw [hw] at h1 h2 h3 h4 E1 E2
      by_cases hlt : S < Z
      · have E : Hid (hd s = s.extract q s.size) := E1 ⟨rfl, hlt⟩
        have hltb : decide ((S : Int) < (Z : Int)) = true := decide_eq_true (by omega)
        clear E1 E2 hw
        go_enter Tryd.func35, Tryd.ntmps35
        go_wp2_with fail
        refine key.mono ?_
        rintro e w1 ⟨v1, rfl, hp, hb⟩
        obtain ⟨a1, c1, rfl, hx⟩ := owns_slice hp
        obtain ⟨g, rfl⟩ := hx (by omega)
        have c0 : w1.cell? ⟨g, m * 4, none⟩ = some (.int .i64 q) := owns_cell hp rfl _ _ (h1.trans rfl)
        have c1' : w1.cell? ⟨g, m * 4 + 1, none⟩ = some (.int .i64 S) := owns_cell hp rfl _ _ (h2.trans rfl)
        have c2 : w1.cell? ⟨g, m * 4 + 2, none⟩ = some (.int .i32 R) := owns_cell hp rfl _ _ (h3.trans rfl)
        have c3 : w1.cell? ⟨g, m * 4 + 3, none⟩ = some (.bool true) := owns_cell hp rfl _ _ (h4.trans rfl)
        clear hp key h1 h2 h3 h4 hx
        go_wp2_with (go_at_call 49; refine (kb _).mono ?_; rintro e w' ⟨rfl, rfl⟩)
        go_ret
        exact ⟨ret_str E.out.symm, hb.alloc hb.size _⟩
      · have E : Hid (hd s = ⟨#[]⟩) := E2 (fun c => hlt c.2)
        have hltb : decide ((S : Int) < (Z : Int)) = false := decide_eq_false (by omega)
        clear E1 E2 hw
        go_enter Tryd.func35, Tryd.ntmps35
        go_wp2_with fail
        refine key.mono ?_
        rintro e w1 ⟨v1, rfl, hp, hb⟩
        obtain ⟨a1, c1, rfl, hx⟩ := owns_slice hp
        obtain ⟨g, rfl⟩ := hx (by omega)
        have c0 : w1.cell? ⟨g, m * 4, none⟩ = some (.int .i64 q) := owns_cell hp rfl _ _ (h1.trans rfl)
        have c1' : w1.cell? ⟨g, m * 4 + 1, none⟩ = some (.int .i64 S) := owns_cell hp rfl _ _ (h2.trans rfl)
        have c2 : w1.cell? ⟨g, m * 4 + 2, none⟩ = some (.int .i32 R) := owns_cell hp rfl _ _ (h3.trans rfl)
        have c3 : w1.cell? ⟨g, m * 4 + 3, none⟩ = some (.bool true) := owns_cell hp rfl _ _ (h4.trans rfl)
        clear hp key h1 h2 h3 h4 hx
        go_wp2_with (go_at_call 49; refine (kb _).mono ?_; rintro e w' ⟨rfl, rfl⟩)
        go_ret
        exact ⟨ret_str E.out.symm, hb.alloc hb.size _⟩
end Go.Proofs.YtabofadjnbpjkabDoor
