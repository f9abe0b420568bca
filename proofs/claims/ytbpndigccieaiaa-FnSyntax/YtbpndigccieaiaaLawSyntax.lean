/- FnSyntax returns true at every list of bytes and leaves it as it was: a drawn right syntax is read back from its text, whatever stands behind, and one that is not right has the empty text; no condition. -/
import Derived.Test.YtbpndigccieaiaaSynRead
import Derived.Test.YtbpndigccieaiaaDrawSyn
import Derived.Deep.RegionWith
import Derived.Lib.SmallJoins
namespace Go.Proofs.Ytbpndigccieaiaa
open Go.ChangeShapes Go.WideShapes Go.ChangeAt Go.RowKit
set_option linter.unusedVariables false
namespace fnSyntax
def IsRow (k : IntKind) (w : World) (a : Option Addr) (len cap : Nat) (zs : List Int) : Prop :=
  (a = none ∧ len = 0 ∧ cap = 0 ∧ zs = []) ∨
  ∃ x, a = some x ∧ len ≤ cap ∧ cap ≤ maxLen ∧ zs.length = cap ∧ (∀ i, i < zs.length → w.cell? (x.add i) = some (.int k (zs.getD i 0))) ∧ ∀ n ∈ zs, (Lit.int k n).wf = true
theorem IsRow.bytesAt {w : World} {a : Option Addr} {len cap : Nat} {zs : List Int} (h : IsRow .u8 w a len cap zs) : BytesAt w a len zs := by
  intro g
  rcases h with ⟨_, rfl, _, _⟩ | ⟨x, rfl, hl, _, hz, hc, _⟩
  · omega
  · obtain ⟨b, off, spot⟩ := x
    have h0 := hc 0 (by omega)
    have hspot : spot = none := by simpa [Addr.add] using World.cell?_spot h0
    subst hspot
    refine ⟨b, off, rfl, fun i hi => ?_⟩
    have hplain : (⟨b, off, none⟩ : Addr).add i = ⟨b, off + i, none⟩ := by unfold Addr.add; split <;> simp_all
    have := hc i (by omega)
    rw [hplain] at this
    simpa [List.getD] using this
theorem IsRow.len_le {w : World} {a : Option Addr} {len cap : Nat} {zs : List Int} (h : IsRow .u8 w a len cap zs) : len ≤ 9223372036854775807 := by
  rcases h with ⟨_, rfl, _, _⟩ | ⟨x, rfl, hl, hm, hz, hc, _⟩
  · omega
  · unfold maxLen at hm
    omega
theorem syn_list (a b c d : Int) (t : ByteArray) : (synStr a b c d ++ t).data.toList = [83, 89, 78] ++ [UInt8.ofNat (a % 256).toNat, UInt8.ofNat (b % 256).toNat, UInt8.ofNat (c % 256).toNat, UInt8.ofNat (d % 256).toNat] ++ t.data.toList := by
  unfold synStr
  rw [Go.Joins.data_append, Go.Joins.data_append, strOfNums_data]
  rfl
theorem syn_size (a b c d : Int) : (synStr a b c d).size = 7 := rfl
theorem syn_size2 (a b c d : Int) : (synStr a b c d ++ (⟨#[120]⟩ : ByteArray)).size = 8 := by
  have h : (synStr a b c d ++ (⟨#[120]⟩ : ByteArray)).data.toList.length = 8 := by rw [syn_list]; rfl
  exact h
theorem u8num (x : Int) : ((UInt8.ofNat (x % 256).toNat).toNat : Int) = x % 256 := by
  simp
  omega
theorem mark_bd {c : Int} (h : markB c = true) : 33 ≤ c ∧ c ≤ 126 := by
  unfold markB at h
  have := of_decide_eq_true h
  omega
theorem right_bd {a b c d : Int} (h : rightB a b c d = true) : (33 ≤ a ∧ a ≤ 126) ∧ (33 ≤ b ∧ b ≤ 126) ∧ (33 ≤ c ∧ c ≤ 126) ∧ (33 ≤ d ∧ d ≤ 126) := by
  unfold rightB at h
  simp only [Bool.and_eq_true] at h
  exact ⟨mark_bd h.1, mark_bd h.2.1.1, mark_bd h.2.2.1.1, mark_bd h.2.2.2.1⟩
theorem syn_byt (a b c d : Int) (t : ByteArray) : byt (synStr a b c d ++ t) 0 = 83 ∧ byt (synStr a b c d ++ t) 1 = 89 ∧ byt (synStr a b c d ++ t) 2 = 78 ∧ byt (synStr a b c d ++ t) 3 = a % 256 ∧ byt (synStr a b c d ++ t) 4 = b % 256 ∧ byt (synStr a b c d ++ t) 5 = c % 256 ∧ byt (synStr a b c d ++ t) 6 = d % 256 := by
  unfold byt
  rw [syn_list]
  exact ⟨rfl, rfl, rfl, u8num a, u8num b, u8num c, u8num d⟩
/-- What stands in the law: nothing old has turned, and the drawn syntax lies in its block. -/
def LS (w0 W : World) (S : Nat) (a b c d : Int) : Prop := Below w0.heap.size w0 W ∧ Box4 W S a b c d
theorem LS.drew {w0 W : World} {S : Nat} {a b c d : Int} (h : LS w0 W S a b c d) : LS w0 W.drew S a b c d := ⟨h.1.drew, h.2.keep (Keep.refl (S + 1) W).drew (by omega)⟩
theorem LS.below {w0 W W' : World} {S : Nat} {a b c d : Int} (h : LS w0 W S a b c d) (hb : Below W.heap.size W W') : LS w0 W' S a b c d := ⟨h.1.trans (hb.mono h.1.size), h.2.keep (Keep.of_below (B := S + 1) hb) (by omega)⟩
theorem text_ls {a b c d : Int} (hr : rightB a b c d = true) {w0 : World} {S : Nat} (W : World) (h : LS w0 W S a b c d) :
    Calls Try.prog 11 #[.agg #[.int .i64 a, .int .i64 b, .int .i64 c, .int .i64 d]] W fun e w' => e = .returned (.string (synStr a b c d)) ∧ LS w0 w' S a b c d ∧ w'.cell? ⟨S, 0, none⟩ = some (.int .i64 a) ∧ w'.cell? ⟨S, 1, none⟩ = some (.int .i64 b) ∧ w'.cell? ⟨S, 2, none⟩ = some (.int .i64 c) ∧ w'.cell? ⟨S, 3, none⟩ = some (.int .i64 d) := by
  refine (text_impl_yes a b c d W hr).mono ?_
  rintro e w' ⟨rfl, hb⟩
  have h' := h.below hb
  exact ⟨rfl, h', h'.2.c0, h'.2.c1, h'.2.c2, h'.2.c3⟩
theorem read_ls {a b c d : Int} (hr : rightB a b c d = true) {w0 : World} {S : Nat} (W : World) (h : LS w0 W S a b c d) :
    Calls Try.prog 12 #[.string (synStr a b c d ++ (⟨#[120]⟩ : ByteArray))] W fun e w' => e = .returned (.agg #[.int .i64 a, .int .i64 b, .int .i64 c, .int .i64 d, .int .i64 7, .int .i64 0]) ∧ LS w0 w' S a b c d ∧ w'.cell? ⟨S, 0, none⟩ = some (.int .i64 a) ∧ w'.cell? ⟨S, 1, none⟩ = some (.int .i64 b) ∧ w'.cell? ⟨S, 2, none⟩ = some (.int .i64 c) ∧ w'.cell? ⟨S, 3, none⟩ = some (.int .i64 d) := by
  obtain ⟨⟨a1, a2⟩, ⟨b1, b2⟩, ⟨c1, c2⟩, ⟨d1, d2⟩⟩ := right_bd hr
  obtain ⟨e0, e1, e2, e3, e4, e5, e6⟩ := syn_byt a b c d (⟨#[120]⟩ : ByteArray)
  have hs := syn_size2 a b c d
  rw [show a % 256 = a by omega] at e3
  rw [show b % 256 = b by omega] at e4
  rw [show c % 256 = c by omega] at e5
  rw [show d % 256 = d by omega] at e6
  have hp : preB (synStr a b c d ++ (⟨#[120]⟩ : ByteArray)) = true := by
    unfold preB
    rw [e0, e1, e2]
    simp
  refine (read_impl_ok (synStr a b c d ++ (⟨#[120]⟩ : ByteArray)) W (by omega) (by omega) hp (by rw [e3, e4, e5, e6]; exact hr)).mono ?_
  rintro e w' ⟨rfl, hb⟩
  rw [e3, e4, e5, e6]
  have h' := h.below hb
  exact ⟨rfl, h', h'.2.c0, h'.2.c1, h'.2.c2, h'.2.c3⟩
set_option maxHeartbeats 1000000 in
theorem walk (a0 : Option Addr) (len0 cap0 : Nat) (z0 : List Int) (w : World) (w0 : IsRow .u8 w a0 len0 cap0 z0) :
    Calls Try.prog 4 #[.slice a0 len0 cap0] w fun e w' => e = .returned (.bool true) ∧ Below w.heap.size w w' := by
  have hlm := w0.len_le
  have HR : Hid (BytesAt w a0 len0 z0) := w0.bytesAt
  clear w0
  by_cases hg : 1048576 < len0
  · have hg' : (1048576 : Int) < (len0 : Int) := by omega
    clear HR
    go_enter Try.func4, Try.ntmps4
    go_wp2
    go_ret
    exact ⟨rfl, Below.refl _ _⟩
  · have hg' : (len0 : Int) ≤ 1048576 := by omega
    go_enter Try.func4, Try.ntmps4
    go_wp2_with fail
    refine (drawSyntaxText_any a0 len0 cap0 z0 _ (by omega) HR.out).mono ?_
    rintro e w1 ⟨a, b, c, d, rfl, hb1⟩
    go_wp2_with fail
    refine (right_spec a b c d _).mono ?_
    rintro e w2 ⟨rfl, hb2⟩
    have bx := (Box4.new w1 24 a b c d).keep (Keep.of_below (B := w1.heap.size + 1) hb2) (by omega)
    have hB : Below w.heap.size w w2 := hb1.trans (((Below.refl _ _).alloc hb1.size _).trans (hb2.mono (by have := hb1.size; simp; omega)))
    have HB : Hid (Below w.heap.size w w2 ∧ Box4 w2 w1.heap.size a b c d) := ⟨hB, bx⟩
    have hs1 := hb1.size
    have hlt := bx.lt
    have x0 := bx.c0
    have x1 := bx.c1
    have x2 := bx.c2
    have x3 := bx.c3
    clear hb1 hb2 bx hB HR
    cases hr : rightB a b c d
    · go_wp2_with fail
      refine (text_impl_no a b c d _ hr).mono ?_
      rintro e w3 ⟨rfl, hb3⟩
      go_wp2
      go_ret
      exact ⟨rfl, HB.out.1.trans (hb3.mono (by omega))⟩
    · have hLS : LS w w2 w1.heap.size a b c d := HB.out
      have hsz := syn_size a b c d
      clear HB
      go_wp2_with fail
      go_region_with (first | (go_at_call 11; refine (text_ls (w0 := w) (S := w1.heap.size) hr _ ?_).mono ?_; (first | exact hLS.drew | exact hLS); rintro e w3 ⟨rfl, hL3, y0, y1, y2, y3⟩) | (go_at_call 12; refine (read_ls (w0 := w) (S := w1.heap.size) hr _ ?_).mono ?_; exact hL3; rintro e w4 ⟨rfl, hL4, z0, z1, z2, z3⟩))
      all_goals
        go_wp2
        go_ret
        refine ⟨ret_bool ?_, hL4.1⟩
        simp
theorem own : ownKnob Try.prog.godebug = none := by kernel_rfl
theorem laidOut : laidOutB Try.prog = true := by kernel_rfl
set_option maxRecDepth 100000 in
theorem lifted (os : Os) (started : os.Started) (H : Type) (enc : TypeId × Value → H) :
    ReturnsInHanded {} Try.checked os 4 .any (Rows.fnSyntaxSpec.pre6 enc Try.prog Try.f4 Rows.fnSyntaxRow.domain false) (Rows.fnSyntaxSpec.post enc Try.prog Try.f4 false true false false) := by
  refine returnsInHanded_of_change (C := Try.checked) own started (by kernel_rfl) Try.func4
    (ChangeSpec.witness6 (enc := enc) (C := Try.checked) false ⟨#[], #[.slice none 0 0], []⟩ 8 (by kernel_rfl) (by kernel_rfl) (by kernel_rfl) (by kernel_rfl)) ?_
  intro W base args ds gs before hval0 hW hcnd _
  have hval : ∀ (j : Nat) t v, Try.f4.params[j]? = some t → args[j]? = some v → Value.okWide Try.prog W .any base t v := hval0
  have hW' := hW
  obtain ⟨p, q, hA0, hV, rfl, hfz, hnd⟩ := hW
  have hA : DataW.TrodAll enc Try.prog W 0 (fun _ => true) true Try.f4.params.toList args.toList ds p := hA0
  rw [Try.params4] at hA hval
  obtain ⟨v0, vs0, d0, ds0, p0, q0, hargs, rfl, rfl, h0, r0⟩ := trodAll_cons hA
  obtain ⟨rfl, rfl, rfl⟩ := trodAll_nil r0
  obtain rfl : args = #[v0] := by cases args; simp_all
  obtain ⟨rfl, rfl⟩ := trodVars_none hV
  obtain ⟨a0, len0, cap0, rfl⟩ := okWide_slice Try.underlying22 (hval 0 22 v0 rfl rfl)
  have k0 := h0
  have lt0 : ∀ x ∈ p0, x.block < W.heap.size := by obtain ⟨m, hm⟩ := k0; exact DataW.trod_lt m _ _ _ hm
  obtain ⟨z0, w0⟩ : ∃ zs, IsRow .u8 W a0 len0 cap0 zs := by
    obtain ⟨fuel, hf⟩ := h0
    rcases open_ints Try.underlying22 Try.underlying5 (by kernel_rfl) hf with ⟨hcs, _⟩ | ⟨x, l, c, zs, hcs, _, hl, hm, hz, _, hcell, hwz⟩
    · simp [Value.cells] at hcs
      obtain ⟨rfl, rfl, rfl⟩ := hcs
      exact ⟨[], .inl ⟨rfl, rfl, rfl, rfl⟩⟩
    · simp [Value.cells] at hcs
      obtain ⟨rfl, rfl, rfl⟩ := hcs
      exact ⟨zs, .inr ⟨_, rfl, hl, hm, by simpa using hz, hcell, hwz⟩⟩
  clear hA0 hval0
  refine (walk a0 len0 cap0 z0 W w0).mono fun e W' ⟨he, bel⟩ => ?_
  subst he
  exact ⟨_, rfl, _, _, _, [], _, [], hW', trodAll_mk1 (shut_bool Try.underlying4 _), (trodAll_cons_mk (Below.trod laidOut (by kernel_rfl) (of_decide_eq_true (by kernel_rfl)) k0 bel lt0) trodAll_mk0), rfl, bel.frame _, fun h => by cases h⟩
theorem over : Rows.fnSyntaxRow.holds Try.pinned (OpenSpec.ofChange Rows.fnSyntaxSpec) :=
  OpenClaim.holds_of_wide 4 Try.f4 rfl rfl rfl rfl rfl rfl rfl ⟨rfl, rfl, rfl, rfl, rfl⟩ rfl rfl rfl rfl rfl (by kernel_rfl) Try.func4 (by kernel_rfl)
    (of_decide_eq_true (by kernel_rfl)) (by unfold Func.isWrapper; first | (rw [if_pos (by decide +kernel)]; kernel_rfl) | (rw [if_neg (by decide +kernel)]; exact ⟨rfl, rfl⟩))
    (fun os started H enc _ => lifted os started H enc)
end fnSyntax
theorem fnSyntax_holds : Rows.FnSyntaxSaid := fnSyntax.over
#print axioms fnSyntax_holds
end Go.Proofs.Ytbpndigccieaiaa
