/- FnSegments returns true at every list of bytes and leaves it as it was: drawn right segments are read back from their texts, one behind the other; no condition. -/
import Derived.Test.YtbdjaohfnbnacaaDrawSegs
import Derived.Test.YtbdjaohfnbnacaaSegsBack
import Derived.Test.YtbdjaohfnbnacaaLwSegs
import Derived.Test.YtbdjaohfnbnacaaTextsGS
import Derived.Deep.CutBlock
import Derived.Deep.RegionHeld3
namespace Go.Proofs.Ytbdjaohfnbnacaa
open Go.ChangeShapes Go.WideShapes Go.ChangeAt Go.RowKit
open Go.Shelf
set_option linter.unusedVariables false
namespace fnSegments
def IsRow (k : IntKind) (w : World) (a : Option Addr) (len cap : Nat) (zs : List Int) : Prop :=
  (a = none ∧ len = 0 ∧ cap = 0 ∧ zs = []) ∨
  ∃ x, a = some x ∧ len ≤ cap ∧ cap ≤ maxLen ∧ zs.length = cap ∧ (∀ i, i < zs.length → w.cell? (x.add i) = some (.int k (zs.getD i 0))) ∧ ∀ n ∈ zs, (Lit.int k n).wf = true
theorem IsRow.bytesAt {w : World} {a : Option Addr} {len cap : Nat} {zs : List Int} (h : IsRow .u8 w a len cap zs) : BytesAt w a len zs := by
  intro g
  rcases h with ⟨_, rfl, _, _⟩ | ⟨x, rfl, hl, _, hz, hc, _⟩
  · omega
  · obtain ⟨b, off, spot⟩ := x
    have h0 := hc 0 (by omega)
    have hspot : spot = none := by simpa [Addr.add] using World.cell?_spot h0
    subst hspot
    refine ⟨b, off, rfl, fun i hi => ?_⟩
    have hplain : (⟨b, off, none⟩ : Addr).add i = ⟨b, off + i, none⟩ := by unfold Addr.add; split <;> simp_all
    have := hc i (by omega)
    rw [hplain] at this
    simpa [List.getD] using this
theorem IsRow.len_le {w : World} {a : Option Addr} {len cap : Nat} {zs : List Int} (h : IsRow .u8 w a len cap zs) : len ≤ 9223372036854775807 := by
  rcases h with ⟨_, rfl, _, _⟩ | ⟨x, rfl, hl, hm, hz, hc, _⟩
  · omega
  · unfold maxLen at hm
    omega
theorem toList_ne0 {s t : ByteArray} (h : s ≠ t) : (s.toList == t.toList) = false ∧ (s.toList != t.toList) = true ∧ ¬ s.toList = t.toList := by
  have h0 : ¬ s.toList = t.toList := fun e => h (by rw [ByteArray.toList_eq, ByteArray.toList_eq] at e; exact ByteArray.ext (Array.toList_inj.1 e))
  exact ⟨by rw [beq_eq_false_iff_ne]; exact h0, by rw [bne_iff_ne]; exact h0, h0⟩
/-- What stands in the law: the syntax in S, the segments. -/
structure L1 (w W : World) (S : Nat) (a b c d : Int) (v : Value) (gs : List Seg) : Prop where
  bel : Below w.heap.size w W
  x : Box4 W S a b c d
  row : RowG W v gs
theorem L1.below {w W W' : World} {S : Nat} {a b c d : Int} {v : Value} {gs : List Seg} (h : L1 w W S a b c d v gs) (hb : Below W.heap.size W W') : L1 w W' S a b c d v gs :=
  ⟨h.bel.trans (hb.mono h.bel.size), h.x.keep (Keep.of_below (B := S + 1) hb) (by omega), h.row.below hb⟩
theorem isE_no {s : ByteArray} (h : s.size ≠ 0) : s.toList.isEmpty = false := by
  rw [List.isEmpty_eq_false_iff]
  intro e
  rw [ByteArray.toList_eq] at e
  exact h (by rw [bsz, e]; rfl)
theorem str_ne {s : ByteArray} (h : s.size ≠ 0) : s ≠ ⟨#[]⟩ := fun e => h (by rw [e]; rfl)
set_option maxRecDepth 20000 in
set_option maxHeartbeats 4000000 in
theorem walk (a0 : Option Addr) (len0 cap0 : Nat) (z0 : List Int) (w : World) (w0 : IsRow .u8 w a0 len0 cap0 z0) :
    Calls Try.prog 3 #[.slice a0 len0 cap0] w fun e w' => e = .returned (.bool true) ∧ Below w.heap.size w w' := by
  have hl0 := w0.len_le
  have HR : Hid (BytesAt w a0 len0 z0) := w0.bytesAt
  clear w0
  by_cases hg : 1048576 < len0
  · have hg' : (1048576 : Int) < (len0 : Int) := by omega
    clear HR
    go_enter Try.func3, Try.ntmps3
    go_wp2
    go_ret
    exact ⟨rfl, Below.refl _ _⟩
  have hg' : (len0 : Int) ≤ 1048576 := by omega
  go_enter Try.func3, Try.ntmps3
  go_wp2_with fail
  refine (drawSegmentsText_any a0 len0 cap0 z0 _ (by omega) HR.out).mono ?_
  rintro e w1 ⟨a, b, c, d, v, gs, rfl, hgl, hrow, hbd, hb1⟩
  obtain ⟨Av, Cv, rfl⟩ := hrow.val
  have hs1 := hb1.size
  have b2 : Below w1.heap.size w1 (w1.alloc (.cells #[.int .i64 a, .int .i64 b, .int .i64 c, .int .i64 d] 24)) := (Below.refl _ _).alloc (Nat.le_refl _) _
  have hW : L1 w (w1.alloc (.cells #[.int .i64 a, .int .i64 b, .int .i64 c, .int .i64 d] 24)) w1.heap.size a b c d (.slice Av gs.length Cv) gs := ⟨hb1.trans (b2.mono hs1), Box4.new w1 24 a b c d, hrow.below b2⟩
  have HB : Hid (BdG 1048576 gs) := hbd
  have x0 := hW.x.c0
  have x1 := hW.x.c1
  have x2 := hW.x.c2
  have x3 := hW.x.c3
  clear hrow hbd hb1 b2
  go_wp2_with fail
  refine (texts_spec a b c d _ gs _ hW.row HB.out).mono ?_
  rintro e w2 ⟨rfl, hb2⟩
  have h2 := hW.below hb2
  clear hb2 hW x0 x1 x2 x3
  have x0 := h2.x.c0
  have x1 := h2.x.c1
  have x2 := h2.x.c2
  have x3 := h2.x.c3
  obtain ⟨T, hT⟩ : ∃ T, textsG a b c d gs = T := ⟨_, rfl⟩
  have HT : Hid (textsG a b c d gs = T) := hT
  rw [hT]
  clear hT
  go_wp2_with fail
  refine (texts_impl a b c d _ gs _ h2.row HB.out).mono ?_
  rintro e w3 ⟨rfl, hb3⟩
  rw [HT.out]
  have h3 := h2.below hb3
  clear hb3 h2 x0 x1 x2 x3
  have x0 := h3.x.c0
  have x1 := h3.x.c1
  have x2 := h3.x.c2
  have x3 := h3.x.c3
  by_cases hz : T.size = 0
  · obtain rfl : T = ⟨#[]⟩ := by
      apply ByteArray.ext
      apply Array.eq_empty_of_size_eq_zero
      exact hz
    have HL : Hid (Below w.heap.size w w3) := h3.bel
    clear h3
    go_wp2
    go_ret
    exact ⟨rfl, HL.out⟩
  · obtain ⟨n1, n2, n3⟩ := toList_ne0 (str_ne hz)
    have n4 : T.toList.isEmpty = false := isE_no hz
    have hok : okGs a b c d gs := textsG_ok (by rw [HT.out]; exact hz)
    have hrd := rds_back hok
    rw [HT.out] at hrd
    have HO : Hid (okGs a b c d gs ∧ rdsR a b c d T = (0, 0, 0, gs)) := ⟨hok, hrd⟩
    clear hok hrd hz
    go_wp2_with fail
    refine (segsRead_any a b c d T _).mono ?_
    rintro e w4 ⟨v4, ps4, rfl, hO4, hb4⟩
    rw [HO.out.2] at hO4 ⊢
    obtain ⟨A4, C4, hv4⟩ := hO4.slice
    subst hv4
    have r4 := hO4.rowR HO.out.1.2.2.1 HO.out.1.2.1
    have h4 := h3.below hb4
    have b5 : Below w4.heap.size w4 (w4.alloc (.cells #[.slice A4 gs.length C4, .int .i64 0, .int .i64 0, .int .i64 0] 30)) := (Below.refl _ _).alloc (Nat.le_refl _) _
    have h5 := h4.below b5
    have r5 := r4.below b5
    have y0 : (w4.alloc (.cells #[.slice A4 gs.length C4, .int .i64 0, .int .i64 0, .int .i64 0] 30)).cell? ⟨w4.heap.size, 0, none⟩ = some (.slice A4 gs.length C4) := by simp [go_sem]
    have y3 : (w4.alloc (.cells #[.slice A4 gs.length C4, .int .i64 0, .int .i64 0, .int .i64 0] 30)).cell? ⟨w4.heap.size, 3, none⟩ = some (.int .i64 0) := by simp [go_sem]
    clear hO4 r4 h4 h3 hb4 b5 x0 x1 x2 x3
    dsimp only
    go_wp2_with fail
    refine (lwSegs_any _ _ gs _ r5 h5.row).mono ?_
    rintro e w6 ⟨rfl, hb6⟩
    have HL : Hid (Below w.heap.size w w6) := h5.bel.trans (hb6.mono h5.bel.size)
    clear hb6 h5 r5 y0 y3
    go_wp2
    go_ret
    exact ⟨rfl, HL.out⟩
theorem own : ownKnob Try.prog.godebug = none := by kernel_rfl
theorem laidOut : laidOutB Try.prog = true := by kernel_rfl
set_option maxRecDepth 100000 in
theorem lifted (os : Os) (started : os.Started) (H : Type) (enc : TypeId × Value → H) :
    ReturnsInHanded {} Try.checked os 3 .any (Rows.fnSegmentsSpec.pre6 enc Try.prog Try.f3 Rows.fnSegmentsRow.domain false) (Rows.fnSegmentsSpec.post enc Try.prog Try.f3 false true false false) := by
  refine returnsInHanded_of_change (C := Try.checked) own started (by kernel_rfl) Try.func3
    (ChangeSpec.witness6 (enc := enc) (C := Try.checked) false ⟨#[], #[.slice none 0 0], []⟩ 8 (by kernel_rfl) (by kernel_rfl) (by kernel_rfl) (by kernel_rfl)) ?_
  intro W base args ds gs before hval0 hW hcnd _
  have hval : ∀ (j : Nat) t v, Try.f3.params[j]? = some t → args[j]? = some v → Value.okWide Try.prog W .any base t v := hval0
  have hW' := hW
  obtain ⟨p, q, hA0, hV, rfl, hfz, hnd⟩ := hW
  have hA : DataW.TrodAll enc Try.prog W 0 (fun _ => true) true Try.f3.params.toList args.toList ds p := hA0
  rw [Try.params3] at hA hval
  obtain ⟨v0, vs0, d0, ds0, p0, q0, hargs, rfl, rfl, h0, r0⟩ := trodAll_cons hA
  obtain ⟨rfl, rfl, rfl⟩ := trodAll_nil r0
  obtain rfl : args = #[v0] := by cases args; simp_all
  obtain ⟨rfl, rfl⟩ := trodVars_none hV
  obtain ⟨a0, len0, cap0, rfl⟩ := okWide_slice Try.underlying22 (hval 0 22 v0 rfl rfl)
  have k0 := h0
  have lt0 : ∀ x ∈ p0, x.block < W.heap.size := by obtain ⟨m, hm⟩ := k0; exact DataW.trod_lt m _ _ _ hm
  obtain ⟨z0, w0⟩ : ∃ zs, IsRow .u8 W a0 len0 cap0 zs := by
    obtain ⟨fuel, hf⟩ := h0
    rcases open_ints Try.underlying22 Try.underlying5 (by kernel_rfl) hf with ⟨hcs, _⟩ | ⟨x, l, c, zs, hcs, _, hl, hm, hz, _, hcell, hwz⟩
    · simp [Value.cells] at hcs
      obtain ⟨rfl, rfl, rfl⟩ := hcs
      exact ⟨[], .inl ⟨rfl, rfl, rfl, rfl⟩⟩
    · simp [Value.cells] at hcs
      obtain ⟨rfl, rfl, rfl⟩ := hcs
      exact ⟨zs, .inr ⟨_, rfl, hl, hm, by simpa using hz, hcell, hwz⟩⟩
  clear hA0 hval0
  refine (walk a0 len0 cap0 z0 W w0).mono fun e W' ⟨he, bel⟩ => ?_
  subst he
  exact ⟨_, rfl, _, _, _, [], _, [], hW', trodAll_mk1 (shut_bool Try.underlying4 _), (trodAll_cons_mk (Below.trod laidOut (by kernel_rfl) (of_decide_eq_true (by kernel_rfl)) k0 bel lt0) trodAll_mk0), rfl, bel.frame _, fun h => by cases h⟩
theorem over : Rows.fnSegmentsRow.holds Try.pinned (OpenSpec.ofChange Rows.fnSegmentsSpec) :=
  OpenClaim.holds_of_wide 3 Try.f3 rfl rfl rfl rfl rfl rfl rfl ⟨rfl, rfl, rfl, rfl, rfl⟩ rfl rfl rfl rfl rfl (by kernel_rfl) Try.func3 (by kernel_rfl)
    (of_decide_eq_true (by kernel_rfl)) (by unfold Func.isWrapper; first | (rw [if_pos (by decide +kernel)]; kernel_rfl) | (rw [if_neg (by decide +kernel)]; exact ⟨rfl, rfl⟩))
    (fun os started H enc _ => lifted os started H enc)
end fnSegments
theorem fnSegments_holds : Rows.FnSegmentsSaid := fnSegments.over
#print axioms fnSegments_holds
end Go.Proofs.Ytbdjaohfnbnacaa
