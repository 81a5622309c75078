/-
  The contracts of Encode and of the document's Encode: each byte of a set as a coded byte. Condition: the text is no longer than a third of what one that comes in can be.
-/
import Derived.Test.YtoliiccmfmgmlaaDoorHex
import Derived.Test.YtoliiccmfmgmlaaDoorDc
import Derived.Test.YtoliiccmfmgmlaaDoorFm
import Derived.ScopeJumps
namespace Go.Proofs.YtoliiccmfmgmlaaDoor
open Go.RowKit Go.Lib
variable {P : Program} {Q : Exit → Act → World → Prop} {a : Act} {w : World}
/-- A run that comes to the label, and then goes round and round. -/
theorem wp_scope_to {c rest : Code} (l : Nat) (J : Act → World → Prop) (μ : Act → World → Nat) (hf : findLabel c l = some (Code.skip.seq rest))
    (h0 : ∀ R : Exit → Act → World → Prop, (∀ a w, J a w → rest.wp P R a w) → c.wp P R a w)
    (pass : ∀ a w, J a w → rest.wp P (Exit.jump l (fun a' w' => J a' w' ∧ μ a' w' < μ a w) Q) a w) : (Code.scope c).wp P Q a w := by
  refine wp_scope_jumps l J μ hf (h0 _ fun a w h => ?_) fun a w h => (wpIn_wide (n := 0)).1 (wpIn_seq (wpIn_skip ((wpIn_wide (n := 0)).2 (pass a w h))))
  refine (wpIn_wide (n := 0)).1 (wpIn_mono ((wpIn_wide (n := 0)).2 (pass a w h)) fun e a' w' h' => ?_)
  cases e with
  | goto l' => exact ⟨h'.1, h'.2.1⟩
  | normal => exact h'
  | exit id => exact h'
  | ret => exact h'
  | panic ch => exact h'
  | outgrown => exact h'
/-- What a byte becomes; what the first k bytes become. -/
def e1 (p : Nat → Bool) (b : Nat) : ByteArray := if p b = true then (⟨#[37]⟩ : ByteArray) ++ hexB b else ⟨#[UInt8.ofNat b]⟩
def encT (p : Nat → Bool) (s : ByteArray) : Nat → ByteArray
  | 0 => ⟨#[]⟩
  | k + 1 => encT p s k ++ e1 p (byt s k)
def encB (p : Nat → Bool) (s : ByteArray) : ByteArray := encT p s s.size
theorem e1_size (p : Nat → Bool) (b : Nat) : (e1 p b).size ≤ 3 := by
  unfold e1; split
  · show (3 : Nat) ≤ 3; omega
  · show (1 : Nat) ≤ 3; omega
theorem encT_size (p : Nat → Bool) (s : ByteArray) : ∀ k, (encT p s k).size ≤ 3 * k
  | 0 => by show (0 : Nat) ≤ _; omega
  | k + 1 => by
    have h1 := encT_size p s k
    have h2 := e1_size p (byt s k)
    have h3 : (encT p s k ++ e1 p (byt s k)).size = (encT p s k).size + (e1 p (byt s k)).size := by simp
    show (encT p s k ++ e1 p (byt s k)).size ≤ _
    omega
theorem builder_below {B b : Nat} {bs : List Value} {w w' : World} (h : IsBuilder 45 5 B b bs w) (hb : Below w.heap.size w w') : IsBuilder 45 5 B b bs w' :=
  builder_own (β := Unit) B b (fun _ => bs) () w w' none h ⟨hb.os, hb.tape, hb.output, hb.size, fun k hk _ => hb.block k hk⟩ (fun b e => by cases e)
theorem cells_app (x y : ByteArray) : byteCells x.data.toList ++ strCells y = byteCells (x ++ y).data.toList := by
  simp [strCells, byteCells]
theorem cells_byte (x : ByteArray) (b : Nat) (hb : b < 256) : byteCells x.data.toList ++ [.int .u8 b] = byteCells (x ++ ⟨#[UInt8.ofNat b]⟩).data.toList := by
  have : (UInt8.ofNat b).toNat = b := by simp; omega
  simp [byteCells, this]
theorem cells_len (x : ByteArray) : (byteCells x.data.toList).length = x.size := by simp [byteCells]
/-- The box of a set, and a builder. -/
def EcIn (p : Nat → Bool) (s : ByteArray) (w : World) (k : Nat) (wr : World) : Prop :=
  wr.heap[w.heap.size]? = some (.cells #[.int .u64 (wd p 0), .int .u64 (wd p 1), .int .u64 (wd p 2), .int .u64 (wd p 3)] 27 (0, 0)) ∧ IsBuilder 45 5 (w.heap.size + 1) (w.heap.size + 1) (byteCells (encT p s k).data.toList) wr ∧ Below w.heap.size w wr
set_option maxRecDepth 100000 in
set_option maxHeartbeats 2000000 in
theorem enc_any (p : Nat → Bool) (s : ByteArray) (w : World) (hs : s.size ≤ 46912496100000) :
    Calls Tryd.prog 12 #[.string s, .agg #[.int .u64 (wd p 0), .int .u64 (wd p 1), .int .u64 (wd p 2), .int .u64 (wd p 3)]] w fun e w' => e = .returned (.string (encB p s)) ∧ Below w.heap.size w w' := by
  have h0 : w.heap.size < (w.alloc (.cells #[.int .u64 (wd p 0), .int .u64 (wd p 1), .int .u64 (wd p 2), .int .u64 (wd p 3)] 27)).heap.size := by simp
  have hbx : ((w.alloc (.cells #[.int .u64 (wd p 0), .int .u64 (wd p 1), .int .u64 (wd p 2), .int .u64 (wd p 3)] 27)).alloc (.cells #[.pointer none, .slice none 0 0] 45)).heap[w.heap.size]? = some (.cells #[.int .u64 (wd p 0), .int .u64 (wd p 1), .int .u64 (wd p 2), .int .u64 (wd p 3)] 27 (0, 0)) := (Below.heap_alloc _ _ _ h0).trans (World.alloc_heap_new _ _)
  have hbd : IsBuilder 45 5 (w.heap.size + 1) (w.heap.size + 1) [] ((w.alloc (.cells #[.int .u64 (wd p 0), .int .u64 (wd p 1), .int .u64 (wd p 2), .int .u64 (wd p 3)] 27)).alloc (.cells #[.pointer none, .slice none 0 0] 45)) := by
    have := World.alloc_heap_new (w.alloc (.cells #[.int .u64 (wd p 0), .int .u64 (wd p 1), .int .u64 (wd p 2), .int .u64 (wd p 3)] 27)) (.cells #[.pointer none, .slice none 0 0] 45)
    rw [World.size_alloc] at this
    exact .inl ⟨Nat.le_refl _, _, this, World.ownsRow_nil _ _ _ _, by simp [Value.ownBlock]⟩
  have HS : Hid (EcIn p s w 0 ((w.alloc (.cells #[.int .u64 (wd p 0), .int .u64 (wd p 1), .int .u64 (wd p 2), .int .u64 (wd p 3)] 27)).alloc (.cells #[.pointer none, .slice none 0 0] 45))) := ⟨hbx, hbd, ((Below.refl _ w).alloc (Nat.le_refl _) _).alloc (by simp) _⟩
  clear h0 hbx hbd
  go_enter Tryd.func12, Tryd.ntmps12
  go_wp2
  refine wp_scope_to 0 (fun a wr => ∃ (k : Nat) (u7 u8 u9 u10 u11 u12 u13 u14 u15 u16 u17 u18 u19 u20 u21 u22 u23 u24 u25 u26 u27 u28 : Value), a = { tmps := #[.string s, .agg #[.int .u64 (wd p 0), .int .u64 (wd p 1), .int .u64 (wd p 2), .int .u64 (wd p 3)], undef, .pointer (some ⟨w.heap.size, 0, none⟩), .string ⟨#[]⟩, .pointer (some ⟨w.heap.size + 1, 0, none⟩), .int .i64 k, u7, u8, u9, u10, u11, u12, u13, u14, u15, u16, u17, u18, u19, u20, u21, u22, u23, u24, u25, u26, u27, u28], defers := [] } ∧ k ≤ s.size ∧ Hid (EcIn p s w k wr))
    (fun a _ => s.size - (RowKit.intOf (a.tmps.getD 6 undef)).toNat) rfl ?start ?pass
  case start =>
    intro R hR
    go_wp2
    rename_i K hK
    refine wp_label ?_
    exact hK _ _ (hR _ _ ⟨0, _, _, _, _, _, _, _, _, _, _, _, _, _, _, _, _, _, _, _, _, _, _, rfl, Nat.zero_le _, HS⟩)
  case pass =>
    rintro a wr ⟨k, u7, u8, u9, u10, u11, u12, u13, u14, u15, u16, u17, u18, u19, u20, u21, u22, u23, u24, u25, u26, u27, u28, rfl, hk, HI⟩
    clear HS
    obtain ⟨hbx, hbd, hB⟩ := HI.out
    have hc0 : wr.cell? ⟨w.heap.size, 0, none⟩ = some (.int .u64 (wd p 0)) := by simp [World.cell?, hbx]
    have hc1 : wr.cell? ⟨w.heap.size, 1, none⟩ = some (.int .u64 (wd p 1)) := by simp [World.cell?, hbx]
    have hc2 : wr.cell? ⟨w.heap.size, 2, none⟩ = some (.int .u64 (wd p 2)) := by simp [World.cell?, hbx]
    have hc3 : wr.cell? ⟨w.heap.size, 3, none⟩ = some (.int .u64 (wd p 3)) := by simp [World.cell?, hbx]
    by_cases hlt : k < s.size
    · have hlti : ((k : Int) == (s.size : Int)) = false := beq_false_of_ne (by omega)
      have hltj : (k : Int) < (s.size : Int) := by omega
      have q0 : (s[k]'hlt).toNat = byt s k := byt_eq s k hlt
      have lb := byt_lt s k
      have hz := encT_size p s k
      obtain ⟨b, hb⟩ : ∃ b, byt s k = b := ⟨_, rfl⟩
      rw [hb] at q0 lb
      have kh := fun w => has_any (wd p) b w lb
      rw [has_wd] at kh
      have hBz := hB.size
      have hb1 : w.heap.size + 1 < wr.heap.size := by rcases hbd with h | h <;> exact h.lt
      have HX : Hid (∀ wa, Below wr.heap.size wr wa → wa.heap[w.heap.size]? = some (.cells #[.int .u64 (wd p 0), .int .u64 (wd p 1), .int .u64 (wd p 2), .int .u64 (wd p 3)] 27 (0, 0)) ∧ IsBuilder 45 5 (w.heap.size + 1) (w.heap.size + 1) (byteCells (encT p s k).data.toList) wa ∧ Below w.heap.size w wa) := fun wa hb => ⟨(hb.block _ (by omega)).trans hbx, builder_below hbd hb, hB.trans (hb.mono hBz)⟩
      have FIN : Hid (∀ (wa wb : World) (x : ByteArray), e1 p (byt s k) = x → wa.heap[w.heap.size]? = some (.cells #[.int .u64 (wd p 0), .int .u64 (wd p 1), .int .u64 (wd p 2), .int .u64 (wd p 3)] 27 (0, 0)) → Below w.heap.size w wa → IsBuilder 45 5 (w.heap.size + 1) (w.heap.size + 1) (byteCells (encT p s k ++ x).data.toList) wb → Below (w.heap.size + 1) wa wb → EcIn p s w (k + 1) wb) := fun wa wb x hx h1 h2 h3 h4 => by
        subst hx
        exact ⟨(h4.block _ (by omega)).trans h1, h3, h2.trans ⟨h4.os, h4.tape, h4.output, h4.size, fun j hj => h4.block j (by omega)⟩⟩
      rw [hb] at FIN
      clear hbx hbd hB HI hb
      cases hp : p b
      · rw [hp] at kh
        have E1 : Hid (e1 p b = ⟨#[UInt8.ofNat b]⟩) := by unfold Hid e1; rw [if_neg (by rw [hp]; decide)]
        go_wp2
        go_region_with (go_at_call 24; refine (kh _).mono ?_; rintro e w' ⟨rfl, rfl⟩)
        all_goals
          obtain ⟨x1, x2, x3⟩ := HX.out _ ((Below.refl _ wr).alloc (Nat.le_refl _) (.cells #[.int .u64 (wd p 0), .int .u64 (wd p 1), .int .u64 (wd p 2), .int .u64 (wd p 3)] 27)).drew
          have kw := wbyte_any (w.heap.size + 1) (w.heap.size + 1) _ b _ x2 (by rw [cells_len]; omega) (by have := x3.size; simp; omega)
          rw [cells_byte _ _ lb] at kw
          have F := fun wb => FIN.out _ wb _ E1.out x1 x3
          have HF : Hid _ := F
          clear FIN x1 x2 x3 F HX kh
          go_wp2_with (go_at_call 22; refine kw.mono ?_)
          first | rintro e w3 rfl y1 y2 _ | rintro e w3 ⟨rfl, y1, y2, _⟩
          have HE : Hid (EcIn p s w (k + 1) w3) := HF.out w3 y1 y2
          clear HF y1 y2 kw
          go_wp2
          refine wp_goto ?_
          refine ⟨rfl, ⟨k + 1, _, _, _, _, _, _, _, _, _, _, _, _, _, _, _, _, _, _, _, _, _, _, by go_num, by omega, HE⟩, ?_⟩
          simp [RowKit.intOf]; omega
      · rw [hp] at kh
        have E1 : Hid (e1 p b = (⟨#[37]⟩ : ByteArray) ++ hexB b) := by unfold Hid e1; rw [if_pos hp]
        have kx := fun w => hex_any b w lb
        have hxs : (hexB b).size = 2 := rfl
        obtain ⟨H, eH⟩ : ∃ H, hexB b = H := ⟨_, rfl⟩
        rw [eH] at E1 kx hxs
        obtain ⟨V, eV⟩ : ∃ V, (⟨#[37]⟩ : ByteArray) ++ H = V := ⟨_, rfl⟩
        have hvs : V.size = 3 := by
          have : ((⟨#[37]⟩ : ByteArray) ++ H).size = (⟨#[37]⟩ : ByteArray).size + H.size := by simp
          rw [eV, hxs] at this
          exact this
        rw [eV] at E1
        have hcat : ¬ 9223372036854775807 < 1 + H.size := by omega
        clear eH
        go_wp2
        go_region_with (go_at_call 24; refine (kh _).mono ?_; rintro e w' ⟨rfl, rfl⟩)
        all_goals
          go_wp2_with (go_at_call 26; refine (kx _).mono ?_)
          first | rintro e w2 rfl b2 | rintro e w2 ⟨rfl, b2⟩
          have b3 : Below wr.heap.size wr w2 := ((Below.refl _ wr).alloc (Nat.le_refl _) (.cells #[.int .u64 (wd p 0), .int .u64 (wd p 1), .int .u64 (wd p 2), .int .u64 (wd p 3)] 27)).drew.trans (b2.mono (by simp))
          obtain ⟨x1, x2, x3⟩ := HX.out _ b3
          have kw := wstr_any (w.heap.size + 1) (w.heap.size + 1) _ V _ x2 (by rw [cells_len]; omega) (by have := b3.size; omega)
          rw [cells_app] at kw
          have F := fun wb => FIN.out _ wb _ E1.out x1 x3
          have HF : Hid _ := F
          clear FIN x1 x2 x3 F HX kh b2 b3 kx
          go_wp2_with (go_at_call 25; refine kw.mono ?_)
          first | rintro e w3 rfl y1 y2 _ | rintro e w3 ⟨rfl, y1, y2, _⟩
          have HE : Hid (EcIn p s w (k + 1) w3) := HF.out w3 y1 y2
          clear HF y1 y2 kw
          go_wp2
          refine wp_goto ?_
          refine ⟨rfl, ⟨k + 1, _, _, _, _, _, _, _, _, _, _, _, _, _, _, _, _, _, _, _, _, _, _, by go_num, by omega, HE⟩, ?_⟩
          simp [RowKit.intOf]; omega
    · have hlti : ((k : Int) == (s.size : Int)) = true := by simp; omega
      have e : k = s.size := by omega
      have ks := Tryd.Builder_String_any_k (w.heap.size + 1) (w.heap.size + 1) _ wr (IsBuilderF.of hbd) (by have := hbd; have := hB.size; rcases hbd with h | h <;> have := h.lt <;> omega)
      clear hbx hbd HI
      go_wp2_with (go_at_call 23; refine ks.mono ?_)
      first | rintro e w2 rfl _ b2 _ | rintro e w2 ⟨rfl, _, b2, _⟩
      go_wp2
      rw [jump_ret]
      go_ret
      exact ⟨rfl, hB.trans ⟨b2.os, b2.tape, b2.output, b2.size, fun j hj => b2.block j (by omega)⟩⟩
end Go.Proofs.YtoliiccmfmgmlaaDoor
