/- FnEscape returns true at every two lists of bytes and leaves them as they were: a drawn text that is escaped is, unescaped, itself; two escaped texts with El between are cut just there; of a syntax that is not right the escaped text is empty; no condition. -/
import Derived.Test.YtcohoflilonnjaaListsEsc
import Derived.Test.YtcohoflilonnjaaCutBoth
import Derived.Test.YtcohoflilonnjaaDrawWords
import Derived.Deep.RegionWith
import Derived.Deep.RegionHeld3
import Derived.Lib.SmallJoins
namespace Go.Proofs.Ytcohoflilonnjaa
open Go.ChangeShapes Go.WideShapes Go.ChangeAt Go.RowKit
set_option linter.unusedVariables false
namespace fnEscape
def IsRow (k : IntKind) (w : World) (a : Option Addr) (len cap : Nat) (zs : List Int) : Prop :=
  (a = none ∧ len = 0 ∧ cap = 0 ∧ zs = []) ∨
  ∃ x, a = some x ∧ len ≤ cap ∧ cap ≤ maxLen ∧ zs.length = cap ∧ (∀ i, i < zs.length → w.cell? (x.add i) = some (.int k (zs.getD i 0))) ∧ ∀ n ∈ zs, (Lit.int k n).wf = true
theorem IsRow.bytesAt {w : World} {a : Option Addr} {len cap : Nat} {zs : List Int} (h : IsRow .u8 w a len cap zs) : BytesAt w a len zs := by
  intro g
  rcases h with ⟨_, rfl, _, _⟩ | ⟨x, rfl, hl, _, hz, hc, _⟩
  · omega
  · obtain ⟨b, off, spot⟩ := x
    have h0 := hc 0 (by omega)
    have hspot : spot = none := by simpa [Addr.add] using World.cell?_spot h0
    subst hspot
    refine ⟨b, off, rfl, fun i hi => ?_⟩
    have hplain : (⟨b, off, none⟩ : Addr).add i = ⟨b, off + i, none⟩ := by unfold Addr.add; split <;> simp_all
    have := hc i (by omega)
    rw [hplain] at this
    simpa [List.getD] using this
theorem IsRow.len_le {w : World} {a : Option Addr} {len cap : Nat} {zs : List Int} (h : IsRow .u8 w a len cap zs) : len ≤ 9223372036854775807 := by
  rcases h with ⟨_, rfl, _, _⟩ | ⟨x, rfl, hl, hm, hz, hc, _⟩
  · omega
  · unfold maxLen at hm
    omega
theorem convOne (W : World) (x : Int) : (convert 22 9 (.slice (some ⟨W.heap.size, 0, none⟩) 1 1)).run Try.prog (W.alloc (.cells #[.int .u8 x] 5)) = .ok (.string (strOfNums [x])) (W.alloc (.cells #[.int .u8 x] 5)) :=
  run_convert_bytes_arg _ 22 5 Try.underlying22 Try.underlying5 W.heap.size 0 1 1 [x] rfl (fun i hi => by
    rcases i with _ | i
    · simp [go_sem]
    · simp at hi) 9 Try.underlying9
theorem joined {a b c d : Int} (hr : rightB a b c d = true) (t u : ByteArray) (ht : t.size ≤ 20) (hu : u.size ≤ 20) : strs (cutP a b c d (escS a b c d t ++ strOfNums [b % 256] ++ escS a b c d u) b) = [.string (escS a b c d t), .string (escS a b c d u)] := by
  obtain ⟨_, hb, _, hd, _, _, _, _, hbd, _⟩ := right_facts hr
  have h1 := escS_size a b c d t
  have h2 := escS_size a b c d u
  have hm : (mb b).toNat = b := mb_num hb
  have e0 : (strOfNums [b % 256]).data.toList = [mb b] := by
    rw [strOfNums_data, show b % 256 = b by omega]
    rfl
  have e1 : (escS a b c d t ++ strOfNums [b % 256] ++ escS a b c d u).data.toList = escU a b c d t.data.toList ++ (mb b :: escU a b c d u.data.toList) := by
    rw [Go.Joins.data_append, Go.Joins.data_append, e0, escS_eq hd, escS_eq hd]
    simp
  have hsz : (escS a b c d t ++ strOfNums [b % 256] ++ escS a b c d u).size ≤ 20000 := by
    rw [ByteArray.size_append, ByteArray.size_append, strOfNums_size]
    simp
    omega
  have hyb : (b == d) = false := by rw [beq_eq_false_iff_ne]; exact hbd
  have hcb : cutB a b c b = true := by simp [cutB]
  have hob : ownB a b c d b = true := by simp [ownB]
  have e2 : cutZ b (upto (escS a b c d t ++ strOfNums [b % 256] ++ escS a b c d u) d (escS a b c d t ++ strOfNums [b % 256] ++ escS a b c d u).size) = ([(escU a b c d t.data.toList).map fun x => (x.toNat : Int)], (escU a b c d u.data.toList).map fun x => (x.toNat : Int)) := by
    rw [upto_all, e1, mk_escU hd]
    have e3 := mk_escU (a := a) (b := b) (c := c) hd u.data.toList []
    rw [List.append_nil] at e3
    simp only [mk, hm, hyb, Bool.not_false, Bool.and_false, e3, List.append_nil]
    unfold cutZ
    rw [List.foldl_append, cut_escM hd hob hbd, List.foldl_cons, cut_escM hd hob hbd]
    simp [cutS, hm]
  unfold cutP
  rw [if_pos ⟨hsz, hr, hcb⟩, e2]
  simp only [strs, List.cons_append, List.nil_append, List.map_cons, List.map_nil, strOfNums_bytesOf, escS_eq hd]
/-- What stands in the law: nothing old has turned, and the drawn syntax lies in its block. -/
def LS (w0 W : World) (S : Nat) (a b c d : Int) : Prop := Below w0.heap.size w0 W ∧ Box4 W S a b c d
theorem LS.drew {w0 W : World} {S : Nat} {a b c d : Int} (h : LS w0 W S a b c d) : LS w0 W.drew S a b c d := ⟨h.1.drew, h.2.keep (Keep.refl (S + 1) W).drew (by omega)⟩
theorem LS.below {w0 W W' : World} {S : Nat} {a b c d : Int} (h : LS w0 W S a b c d) (hb : Below W.heap.size W W') : LS w0 W' S a b c d := ⟨h.1.trans (hb.mono h.1.size), h.2.keep (Keep.of_below (B := S + 1) hb) (by omega)⟩
set_option maxRecDepth 20000 in
set_option maxHeartbeats 4000000 in
theorem walk (a0 : Option Addr) (len0 cap0 : Nat) (z0 : List Int) (a1 : Option Addr) (len1 cap1 : Nat) (z1 : List Int) (w : World) (w0 : IsRow .u8 w a0 len0 cap0 z0) (w1 : IsRow .u8 w a1 len1 cap1 z1) :
    Calls Try.prog 3 #[.slice a0 len0 cap0, .slice a1 len1 cap1] w fun e w' => e = .returned (.bool true) ∧ Below w.heap.size w w' := by
  have hl0 := w0.len_le
  have hl1 := w1.len_le
  have HR : Hid (BytesAt w a0 len0 z0 ∧ BytesAt w a1 len1 z1) := ⟨w0.bytesAt, w1.bytesAt⟩
  clear w0 w1
  by_cases hg : 1048576 < len0
  · have hg' : (1048576 : Int) < (len0 : Int) := by omega
    clear HR
    go_enter Try.func3, Try.ntmps3
    go_wp2
    go_ret
    exact ⟨rfl, Below.refl _ _⟩
  have hg' : (len0 : Int) ≤ 1048576 := by omega
  by_cases hh : 1048576 < len1
  · have hh' : (1048576 : Int) < (len1 : Int) := by omega
    clear HR
    go_enter Try.func3, Try.ntmps3
    go_wp2
    go_ret
    exact ⟨rfl, Below.refl _ _⟩
  have hh' : (len1 : Int) ≤ 1048576 := by omega
  go_enter Try.func3, Try.ntmps3
  go_wp2_with fail
  refine (drawEscape_any a0 len0 cap0 z0 _ (by omega) HR.out.1).mono ?_
  rintro e w1 ⟨a, b, c, d, t, rfl, ht, hb1⟩
  have hs1 := hb1.size
  have H1 : Hid (Below w.heap.size w w1) := hb1
  clear hb1
  go_wp2_with fail
  refine (drawEscape_any a1 len1 cap1 z1 _ (by omega) (bytesAt_below HR.out.2 ((H1.out.mono (Nat.le_refl _)).trans ((Below.refl _ _).alloc hs1 _)))).mono ?_
  rintro e w2 ⟨p0, p1, p2, p3, u, rfl, hu, hb2⟩
  have hs2 : w1.heap.size + 1 ≤ w2.heap.size := by have := hb2.size; simpa using this
  have bx2 := (Box4.new w1 24 a b c d).keep (Keep.of_below (B := w1.heap.size + 1) hb2) (by omega)
  have hL2 : LS w w2 w1.heap.size a b c d := ⟨H1.out.trans (((Below.refl _ _).alloc hs1 _).trans (hb2.mono (by simp; omega))), bx2⟩
  clear hb2 bx2 H1 HR
  have hne : w1.heap.size ≠ w2.heap.size := by omega
  have hL3 := hL2.below ((Below.refl _ _).alloc (Nat.le_refl _) (.cells #[.int .i64 p0, .int .i64 p1, .int .i64 p2, .int .i64 p3] 24))
  have x0 := hL3.2.c0
  have x1 := hL3.2.c1
  have x2 := hL3.2.c2
  have x3 := hL3.2.c3
  clear hL2
  go_wp2_with fail
  refine (right_spec a b c d _).mono ?_
  rintro e w3 ⟨rfl, hb3⟩
  have hL4 := hL3.below hb3
  clear hL3 hb3 x0 x1 x2 x3
  have x0 := hL4.2.c0
  have x1 := hL4.2.c1
  have x2 := hL4.2.c2
  have x3 := hL4.2.c3
  cases hr : rightB a b c d
  · go_wp2_with fail
    refine (escape_not a b c d t _ hr (by omega)).mono ?_
    rintro e w4 ⟨rfl, hb4⟩
    have HL : Hid (Below w.heap.size w w4) := (hL4.below hb4).1
    go_wp2
    go_ret
    exact ⟨rfl, HL.out⟩
  · have hd := (right_facts hr).2.2.2.1
    have hb' := (right_facts hr).2.1
    have hbd := (right_facts hr).2.2.2.2.2.2.2.2.1
    go_wp2_with fail
    refine (escape_right a b c d t _ hr (by omega)).mono ?_
    rintro e w4 ⟨rfl, hb4⟩
    have hL5 := hL4.below hb4
    clear hL4 hb4 x0 x1 x2 x3
    have x0 := hL5.2.c0
    have x1 := hL5.2.c1
    have x2 := hL5.2.c2
    have x3 := hL5.2.c3
    go_wp2_with fail
    refine (escape_right a b c d u _ hr (by omega)).mono ?_
    rintro e w5 ⟨rfl, hb5⟩
    have hL6 := hL5.below hb5
    clear hL5 hb5 x0 x1 x2 x3
    have x0 := hL6.2.c0
    have x1 := hL6.2.c1
    have x2 := hL6.2.c2
    have x3 := hL6.2.c3
    have ea : strOfNums (esc a b c d (upto t d t.size)) = escS a b c d t := rfl
    have eb : strOfNums (esc a b c d (upto u d u.size)) = escS a b c d u := rfl
    rw [ea, eb]
    go_wp2_with fail
    refine (un_impl a b c d (escS a b c d t) _).mono ?_
    rintro e w6 ⟨t', at_, code, rfl, hout, hb6⟩
    obtain ⟨rfl, rfl, rfl⟩ := un_esc hr t t' at_ code (by omega) hout
    have hL7 := hL6.below hb6
    clear hL6 hb6 x0 x1 x2 x3 hout
    have x0 := hL7.2.c0
    have x1 := hL7.2.c1
    have x2 := hL7.2.c2
    have x3 := hL7.2.c3
    have q0 := hL7.2.lt
    have hcv := convOne w6
    have hL8 := hL7.below ((Below.refl _ _).alloc (Nat.le_refl _) (.cells #[.int .u8 b] 5))
    have sa := escS_size a b c d t'
    have sb := escS_size a b c d u
    have so := strOfNums_size [b]
    simp only [List.length_cons, List.length_nil] at so
    have z1 : ¬ 9223372036854775807 < (escS a b c d t').size + (strOfNums [b]).size := by omega
    have z2 : ¬ 9223372036854775807 < (escS a b c d t').size + (strOfNums [b]).size + (escS a b c d u).size := by omega
    have hj := joined hr t' u ht hu
    rw [show b % 256 = b by omega] at hj
    clear hL7 sa sb so
    go_wp2_with fail
    refine (cut_impl a b c d _ b _).mono ?_
    rintro e w7 ⟨v, rfl, hrow, hb7⟩
    have hlen : (cutP a b c d (escS a b c d t' ++ strOfNums [b] ++ escS a b c d u) b).length = 2 := by
      have := congrArg List.length hj
      simpa [strs] using this
    rw [hj, hlen] at hrow
    have hB : Hid (Below w.heap.size w w7) := (hL8.below hb7).1
    clear hL8 hb7 hj hlen
    rcases hrow.2 with ⟨rfl, h0⟩ | ⟨g, cap, cur, rfl, _, hgb, _, _, _, htk⟩
    · omega
    · have hc0 : w7.cell? ⟨g, 0, none⟩ = some (.string (escS a b c d t')) := hrow.cells (g := g) rfl 0 _ rfl
      have hc1 : w7.cell? ⟨g, 1, none⟩ = some (.string (escS a b c d u)) := hrow.cells (g := g) rfl 1 _ rfl
      clear hrow hgb htk
      go_wp2
      go_ret
      exact ⟨rfl, hB.out⟩
theorem own : ownKnob Try.prog.godebug = none := by kernel_rfl
theorem laidOut : laidOutB Try.prog = true := by kernel_rfl
set_option maxRecDepth 100000 in
theorem lifted (os : Os) (started : os.Started) (H : Type) (enc : TypeId × Value → H) :
    ReturnsInHanded {} Try.checked os 3 .any (Rows.fnEscapeSpec.pre6 enc Try.prog Try.f3 Rows.fnEscapeRow.domain false) (Rows.fnEscapeSpec.post enc Try.prog Try.f3 false true false false) := by
  refine returnsInHanded_of_change (C := Try.checked) own started (by kernel_rfl) Try.func3
    (ChangeSpec.witness6 (enc := enc) (C := Try.checked) false ⟨#[], #[.slice none 0 0, .slice none 0 0], []⟩ 8 (by kernel_rfl) (by kernel_rfl) (by kernel_rfl) (by kernel_rfl)) ?_
  intro W base args ds gs before hval0 hW hcnd _
  have hval : ∀ (j : Nat) t v, Try.f3.params[j]? = some t → args[j]? = some v → Value.okWide Try.prog W .any base t v := hval0
  have hW' := hW
  obtain ⟨p, q, hA0, hV, rfl, hfz, hnd⟩ := hW
  have hA : DataW.TrodAll enc Try.prog W 0 (fun _ => true) true Try.f3.params.toList args.toList ds p := hA0
  rw [Try.params3] at hA hval
  obtain ⟨v0, vs0, d0, ds0, p0, q0, hargs, rfl, rfl, h0, r0⟩ := trodAll_cons hA
  obtain ⟨v1, vs1, d1, ds1, p1, q1, rfl, rfl, rfl, h1, r1⟩ := trodAll_cons r0
  obtain ⟨rfl, rfl, rfl⟩ := trodAll_nil r1
  obtain rfl : args = #[v0, v1] := by cases args; simp_all
  obtain ⟨rfl, rfl⟩ := trodVars_none hV
  obtain ⟨a0, len0, cap0, rfl⟩ := okWide_slice Try.underlying22 (hval 0 22 v0 rfl rfl)
  have k0 := h0
  have lt0 : ∀ x ∈ p0, x.block < W.heap.size := by obtain ⟨m, hm⟩ := k0; exact DataW.trod_lt m _ _ _ hm
  obtain ⟨z0, w0⟩ : ∃ zs, IsRow .u8 W a0 len0 cap0 zs := by
    obtain ⟨fuel, hf⟩ := h0
    rcases open_ints Try.underlying22 Try.underlying5 (by kernel_rfl) hf with ⟨hcs, _⟩ | ⟨x, l, c, zs, hcs, _, hl, hm, hz, _, hcell, hwz⟩
    · simp [Value.cells] at hcs
      obtain ⟨rfl, rfl, rfl⟩ := hcs
      exact ⟨[], .inl ⟨rfl, rfl, rfl, rfl⟩⟩
    · simp [Value.cells] at hcs
      obtain ⟨rfl, rfl, rfl⟩ := hcs
      exact ⟨zs, .inr ⟨_, rfl, hl, hm, by simpa using hz, hcell, hwz⟩⟩
  obtain ⟨a1, len1, cap1, rfl⟩ := okWide_slice Try.underlying22 (hval 1 22 v1 rfl rfl)
  have k1 := h1
  have lt1 : ∀ x ∈ p1, x.block < W.heap.size := by obtain ⟨m, hm⟩ := k1; exact DataW.trod_lt m _ _ _ hm
  obtain ⟨z1, w1⟩ : ∃ zs, IsRow .u8 W a1 len1 cap1 zs := by
    obtain ⟨fuel, hf⟩ := h1
    rcases open_ints Try.underlying22 Try.underlying5 (by kernel_rfl) hf with ⟨hcs, _⟩ | ⟨x, l, c, zs, hcs, _, hl, hm, hz, _, hcell, hwz⟩
    · simp [Value.cells] at hcs
      obtain ⟨rfl, rfl, rfl⟩ := hcs
      exact ⟨[], .inl ⟨rfl, rfl, rfl, rfl⟩⟩
    · simp [Value.cells] at hcs
      obtain ⟨rfl, rfl, rfl⟩ := hcs
      exact ⟨zs, .inr ⟨_, rfl, hl, hm, by simpa using hz, hcell, hwz⟩⟩
  clear hA0 hval0
  refine (walk a0 len0 cap0 z0 a1 len1 cap1 z1 W w0 w1).mono fun e W' ⟨he, bel⟩ => ?_
  subst he
  exact ⟨_, rfl, _, _, _, [], _, [], hW', trodAll_mk1 (shut_bool Try.underlying4 _), (trodAll_cons_mk (Below.trod laidOut (by kernel_rfl) (of_decide_eq_true (by kernel_rfl)) k0 bel lt0) (trodAll_cons_mk (Below.trod laidOut (by kernel_rfl) (of_decide_eq_true (by kernel_rfl)) k1 bel lt1) trodAll_mk0)), rfl, bel.frame _, fun h => by cases h⟩
theorem over : Rows.fnEscapeRow.holds Try.pinned (OpenSpec.ofChange Rows.fnEscapeSpec) :=
  OpenClaim.holds_of_wide 3 Try.f3 rfl rfl rfl rfl rfl rfl rfl ⟨rfl, rfl, rfl, rfl, rfl⟩ rfl rfl rfl rfl rfl (by kernel_rfl) Try.func3 (by kernel_rfl)
    (of_decide_eq_true (by kernel_rfl)) (by unfold Func.isWrapper; first | (rw [if_pos (by decide +kernel)]; kernel_rfl) | (rw [if_neg (by decide +kernel)]; exact ⟨rfl, rfl⟩))
    (fun os started H enc _ => lifted os started H enc)
end fnEscape
theorem fnEscape_holds : Rows.FnEscapeSaid := fnEscape.over
#print axioms fnEscape_holds
end Go.Proofs.Ytcohoflilonnjaa
