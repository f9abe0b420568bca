/- The scribe's kinds: what a lookup tells, and the readers in one form. -/
import Derived.Test.YtcdmnodhkgiaaaaDoorErP
import Derived.Test.YtcdmnodhkgiaaaaDoorScN
import Derived.Maps.RangeWalk
import Derived.Maps.Views
namespace Go.Proofs.YtcdmnodhkgiaaaaDoor
open Go.ChangeShapes Go.WideShapes Go.ChangeAt Go.RowKit
open Go.Maps (Keyed)
/-- A reader, bound to its scribe. -/
def fnB (B F : Nat) : Value := .func (.func F) #[.pointer (some ⟨B, 0, none⟩)] #[]
theorem kindsD_eq (B : Nat) : kindsD B = .map [(.string [99, 114, 111, 115, 115], .held (fnB B 36)), (.string [110, 101, 120, 116], .held (fnB B 38)), (.string [112, 97, 114, 116, 110, 101, 114], .held (fnB B 35)), (.string [116, 97, 107, 101], .held (fnB B 37))] := by rfl
/-- Who reads the words behind a word. -/
def kndF (s : ByteArray) : Option Nat := if s = evW 1 then some 35 else if s = evW 2 then some 36 else if s = evW 3 then some 37 else if s = evW 4 then some 38 else none
theorem same_str (a b : List UInt8) : Lit.sameKey (.string a) (.string b) = (a == b) := rfl
theorem list_ext {s t : ByteArray} : s.data.toList = t.data.toList ↔ s = t := ⟨fun e => ByteArray.ext (Array.toList_inj.1 e), fun e => by rw [e]⟩
theorem evW_list : (evW 1).data.toList = [112, 97, 114, 116, 110, 101, 114] ∧ (evW 2).data.toList = [99, 114, 111, 115, 115] ∧ (evW 3).data.toList = [116, 97, 107, 101] ∧ (evW 4).data.toList = [110, 101, 120, 116] := ⟨rfl, rfl, rfl, rfl⟩
theorem kinds_at (B : Nat) (s : ByteArray) (z : DataW Value) : (kindsD B).atKey (.string s.data.toList) z = match kndF s with | some F => .held (fnB B F) | none => z := by
  obtain ⟨e1, e2, e3, e4⟩ := evW_list
  have hs : ∀ k, (s = evW k ↔ (evW k).data.toList = s.data.toList) := fun k => by rw [list_ext]; exact ⟨fun e => e.symm, fun e => e.symm⟩
  rw [kindsD_eq]
  unfold DataW.atKey kndF
  dsimp only
  simp only [List.find?, same_str]
  obtain ⟨h12, h13, h14, h23, h24, h34⟩ := evW_ne
  by_cases k1 : s = evW 1
  · subst k1
    rfl
  by_cases k2 : s = evW 2
  · subst k2
    rfl
  by_cases k3 : s = evW 3
  · subst k3
    rfl
  by_cases k4 : s = evW 4
  · subst k4
    rfl
  rw [if_neg k1, if_neg k2, if_neg k3, if_neg k4]
  rw [hs 1, e1] at k1
  rw [hs 2, e2] at k2
  rw [hs 3, e3] at k3
  rw [hs 4, e4] at k4
  rw [beq_eq_false_iff_ne.2 k1, beq_eq_false_iff_ne.2 k2, beq_eq_false_iff_ne.2 k3, beq_eq_false_iff_ne.2 k4]
theorem zeroFn (w : World) : (zeroValue 81).run Tryd.prog w = .ok .nilFunc w := by kernel_rfl
theorem rdV_inv {v : Value} {x : DataW Value} {p : List MemPlace} (h : rdV v = some (x, p)) : x = .held v := by
  unfold rdV at h
  cases h
  rfl
/-- What a lookup among the kinds tells. -/
theorem lookK {w : World} {M n B : Nat} {s : ByteArray} (h : w.ownsMap Tryd.prog 9 rdV M n (kindsD B)) (hs : s.size ≤ 1048576) :
    (Instr.lookup 78 (.map (some M)) (.string s) true).run Tryd.prog w = .ok (.tuple #[((kndF s).map (fnB B)).getD .nilFunc, .bool (kndF s).isSome]) w := by
  obtain ⟨es, clock, hb, F, _, hD⟩ := h
  rcases Maps.fit_look true strK Tryd.underlying78 (zeroFn w) hb F (strKey hs) with ⟨hrun, _, hat⟩ | ⟨e0, y, _, _, hrun, hR, hat, _⟩
  · have := hat .nil
    rw [← hD, kinds_at] at this
    cases hf : kndF s with
    | none => rw [hrun]; rfl
    | some f => rw [hf] at this; cases this
  · obtain ⟨y1, y2⟩ := y
    have hy := rdV_inv hR
    have := hat .nil
    rw [← hD, kinds_at] at this
    cases hf : kndF s with
    | none => rw [hf] at this; subst hy; cases this
    | some f =>
      rw [hf] at this
      subst hy
      simp only [DataW.held.injEq] at this
      rw [hrun, ← this]
      rfl
/-- A reader: how it is entered, what it tells. -/
structure Reader (F : Nat) (rd : List ByteArray → EvR) : Prop where
  ent : ∀ args w, (callFunc F args).run Tryd.prog w = .ok (.enter F args) w
  call : ∀ (B b o C M : Nat) (ws : List ByteArray) (w : World), ws.length ≤ 30000 → (∀ j t, ws[j]? = some t → w.cell? ⟨b, o + j, none⟩ = some (.string t)) → (∀ t ∈ ws, t.size ≤ 20000) → Dgt true 80 21 (scR M) B w → B < w.heap.size → b ≠ B →
    Calls Tryd.prog F #[.pointer (some ⟨B, 0, none⟩), .slice (some ⟨b, o, none⟩) ws.length C] w fun e w' => e = .returned (vE (rd ws)) ∧ Dgt true 80 21 (scR M) B w' ∧ w.grownBy w' (some B)
theorem belG {w w' : World} (h : Below w.heap.size w w') (o : Option Nat) : w.grownBy w' o := ⟨h.os, h.tape, h.output, h.size, fun k hk _ => h.block k hk⟩
theorem reader_of {s : ByteArray} {F : Nat} (h : kndF s = some F) : ∃ rd, Reader F rd ∧ ∀ r, rdW (s :: r) = rd r := by
  unfold kndF at h
  by_cases k1 : s = evW 1
  · rw [if_pos k1] at h
    cases h
    refine ⟨wdP, ⟨fun args w => by kernel_rfl, fun B b o C M ws w hn hc hs hd hB hb => ?_⟩, fun r => by rw [k1, rdW_1]⟩
    refine (readPartner_any B b o C ws hn w hc hs).mono ?_
    rintro e w' ⟨rfl, hbl⟩
    exact ⟨by rw [wdP_v], hd.below hbl, belG hbl _⟩
  rw [if_neg k1] at h
  by_cases k2 : s = evW 2
  · rw [if_pos k2] at h
    cases h
    refine ⟨wdC, ⟨fun args w => by kernel_rfl, fun B b o C M ws w hn hc hs hd hB hb => ?_⟩, fun r => by rw [k2, rdW_2]⟩
    refine (readCross_any B b o C ws hn w hc hs).mono ?_
    rintro e w' ⟨rfl, hbl⟩
    exact ⟨by rw [wdC_v], hd.below hbl, belG hbl _⟩
  rw [if_neg k2] at h
  by_cases k3 : s = evW 3
  · rw [if_pos k3] at h
    cases h
    refine ⟨wdT, ⟨fun args w => by kernel_rfl, fun B b o C M ws w hn hc hs hd hB hb => ?_⟩, fun r => by rw [k3, rdW_3]⟩
    refine (readTake_any (by omega) B b o C ws hn w hc hs hd hB hb).mono ?_
    rintro e w' ⟨rfl, h1, h2⟩
    exact ⟨by rw [wdT_v], h1, h2⟩
  rw [if_neg k3] at h
  by_cases k4 : s = evW 4
  · rw [if_pos k4] at h
    cases h
    refine ⟨wdN, ⟨fun args w => by kernel_rfl, fun B b o C M ws w hn hc hs hd hB hb => ?_⟩, fun r => by rw [k4, rdW_4]⟩
    refine (readNext_any B ws.length C (some ⟨b, o, none⟩) hn w).mono ?_
    rintro e w' ⟨rfl, hbl⟩
    exact ⟨by rw [wdN_v], hd.below hbl, belG hbl _⟩
  · rw [if_neg k4] at h
    cases h
theorem kndF_none {s : ByteArray} (h : kndF s = none) (r : List ByteArray) : rdW (s :: r) = zeE := by
  unfold kndF at h
  by_cases h1 : s = evW 1
  · rw [if_pos h1] at h
    cases h
  rw [if_neg h1] at h
  by_cases h2 : s = evW 2
  · rw [if_pos h2] at h
    cases h
  rw [if_neg h2] at h
  by_cases h3 : s = evW 3
  · rw [if_pos h3] at h
    cases h
  rw [if_neg h3] at h
  by_cases h4 : s = evW 4
  · rw [if_pos h4] at h
    cases h
  rw [rdW, if_neg h1, if_neg h2, if_neg h3, if_neg h4]
end Go.Proofs.YtcdmnodhkgiaaaaDoor
