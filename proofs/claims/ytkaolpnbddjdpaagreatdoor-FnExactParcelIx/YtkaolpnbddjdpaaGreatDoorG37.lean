/- Texts of ours put together: EqPs, LaidErrs, TabLaid. -/
import Derived.Test.YtkaolpnbddjdpaaGreatDoorG02
import Derived.Test.YtkaolpnbddjdpaaGreatDoorG36
import Derived.Deep.RegionHeld3
import Derived.MakeChecks
import Derived.LaidLaws
import Derived.Stop.Joined
import Derived.Stop.LaidErr
import Derived.Test.YtkaolpnbddjdpaaGreatDoorG04
namespace Go.Proofs.YtkaolpnbddjdpaaGreatDoor
open Go.ChangeShapes Go.WideShapes Go.ChangeAt Go.RowKit
set_option maxHeartbeats 4000000 in
theorem eqPs_any (v v' : Value) (ps : List Pap) (w : World) (h : RowPs w v ps) (h' : RowPs w v' ps) :
    Calls Tryz.prog 47 #[v, v'] w fun e w' => e = .returned (.bool true) ∧ Below w.heap.size w w' := by
  have hlen := h.len
  obtain ⟨a, cap, rfl⟩ := h.val
  obtain ⟨a', cap', rfl⟩ := h'.val
  have H : Hid (RowPs w (.slice a ps.length cap) ps ∧ RowPs w (.slice a' ps.length cap') ps) := ⟨h, h'⟩
  clear h h'
  go_enter Tryz.func47, Tryz.ntmps47
  go_wp2
  go_loopw [5] (fun i wr => ∃ k : Nat, i = .int .i64 (k : Int) ∧ k ≤ ps.length ∧ Below w.heap.size w wr) (fun i _ => ps.length - (intOf i).toNat)
  case atStart => exact ⟨0, rfl, by omega, Below.refl _ _⟩
  case round =>
    obtain ⟨k, rfl, hk, hb⟩ := hrel
    by_cases hlt : k < ps.length
    · have hlt' : (k : Int) < (ps.length : Int) := by omega
      obtain ⟨b, o, c1, g, vn, vl, e, hs, A, hR⟩ := (H.out.1.below hb).at hlt
      obtain ⟨b', o', c2, g', vn', vl', e', hs', A', hR'⟩ := (H.out.2.below hb).at hlt
      simp only [Value.slice.injEq, true_and] at e e'
      obtain ⟨rfl, rfl⟩ := e
      obtain ⟨rfl, rfl⟩ := e'
      obtain rfl : g = g' := by rw [hs] at hs'; exact Option.some.inj hs'
      have HB : Hid (Below w.heap.size w wr ∧ PapR wr vn vl g ∧ PapR wr vn' vl' g ∧ PapAt wr b (o + k * 6) vn vl g ∧ PapAt wr b' (o' + k * 6) vn' vl' g) := ⟨hb, hR, hR', A, A'⟩
      clear hs hs' hb hR hR'
      obtain ⟨q0, q1, q2, q3, q4, q5⟩ := A
      obtain ⟨p0, p1, p2, p3, p4, p5⟩ := A'
      go_wp2_with fail
      go_region_held3 (fun W => W.cell? ⟨b, o + k * 6, none⟩ = some (.int .i64 g.kind) ∧ W.cell? ⟨b, o + k * 6 + 1, none⟩ = some (.string g.ref) ∧ W.cell? ⟨b, o + k * 6 + 2, none⟩ = some (.string g.other) ∧ W.cell? ⟨b, o + k * 6 + 3, none⟩ = some (.int .i64 g.day) ∧ W.cell? ⟨b, o + k * 6 + 4, none⟩ = some vn ∧ W.cell? ⟨b, o + k * 6 + 5, none⟩ = some vl ∧ W.cell? ⟨b', o' + k * 6, none⟩ = some (.int .i64 g.kind) ∧ W.cell? ⟨b', o' + k * 6 + 1, none⟩ = some (.string g.ref) ∧ W.cell? ⟨b', o' + k * 6 + 2, none⟩ = some (.string g.other) ∧ W.cell? ⟨b', o' + k * 6 + 3, none⟩ = some (.int .i64 g.day) ∧ W.cell? ⟨b', o' + k * 6 + 4, none⟩ = some vn' ∧ W.cell? ⟨b', o' + k * 6 + 5, none⟩ = some vl') (go_keep) (first | (go_at_call 86; refine (eqP_any g vn vl vn' vl' _ (HB.out.2.1.below (Below.refl _ _).drew) (HB.out.2.2.1.below (Below.refl _ _).drew)).mono ?_; rintro e w2 ⟨rfl, hb2⟩; obtain ⟨y0, y1, y2, y3, y4, y5⟩ := (HB.out.2.2.2.1.below (Below.refl _ _).drew).below hb2; obtain ⟨z0, z1, z2, z3, z4, z5⟩ := (HB.out.2.2.2.2.below (Below.refl _ _).drew).below hb2))
      have HB2 : Hid (Below w.heap.size w w2) := HB.out.1.drew.trans (hb2.mono HB.out.1.size)
      clear hb2
      rename_i hHeld
      clear hHeld
      go_wp2
      go_roundw
      case rel => exact ⟨k + 1, by go_num, by omega, HB2.out⟩
      case measure => simp [intOf]; omega
    · obtain rfl : k = ps.length := by omega
      have HB : Hid (Below w.heap.size w wr) := hb
      clear hb
      go_wp2
      go_ret
      exact ⟨rfl, HB.out⟩
set_option maxHeartbeats 2000000 in
theorem eqPc_any (p : Pcl) (v v' : Value) (w : World) (h : PclR w v p) (h' : PclR w v' p) :
    Calls Tryz.prog 17 #[.agg #[.string p.frm, .string p.to, .int .i64 p.num, v], .agg #[.string p.frm, .string p.to, .int .i64 p.num, v']] w fun e w' => e = .returned (.bool true) ∧ Below w.heap.size w w' := by
  obtain ⟨frm, tto, num, ps⟩ := p
  obtain ⟨a, cap, rfl⟩ := h.ps.val
  obtain ⟨a', cap', rfl⟩ := h'.ps.val
  dsimp only at h h' ⊢
  have b0 : Below w.heap.size w ((w.alloc (.cells #[.string frm, .string tto, .int .i64 num, .slice a ps.length cap] 27)).alloc (.cells #[.string frm, .string tto, .int .i64 num, .slice a' ps.length cap'] 27)) := ((Below.refl _ _).alloc (Nat.le_refl _) _).alloc (by simp) _
  have H : Hid (RowPs ((w.alloc (.cells #[.string frm, .string tto, .int .i64 num, .slice a ps.length cap] 27)).alloc (.cells #[.string frm, .string tto, .int .i64 num, .slice a' ps.length cap'] 27)) (.slice a ps.length cap) ps ∧ RowPs ((w.alloc (.cells #[.string frm, .string tto, .int .i64 num, .slice a ps.length cap] 27)).alloc (.cells #[.string frm, .string tto, .int .i64 num, .slice a' ps.length cap'] 27)) (.slice a' ps.length cap') ps) := ⟨h.ps.below b0, h'.ps.below b0⟩
  clear h h'
  go_enter Tryz.func17, Tryz.ntmps17
  go_wp2_with fail
  refine (eqPs_any _ _ ps _ H.out.1 H.out.2).mono ?_
  rintro e w1 ⟨rfl, hb⟩
  have HC : Hid (Below w.heap.size w w1) := b0.trans (hb.mono (by simp; omega))
  clear hb
  go_wp2
  go_ret
  exact ⟨rfl, HC.out⟩
end Go.Proofs.YtkaolpnbddjdpaaGreatDoor
namespace Go.Proofs.YtkaolpnbddjdpaaGreatDoor
open Go.ChangeShapes Go.WideShapes Go.ChangeAt Go.RowKit
theorem iface_of_trod {P : Program} {w : World} {sp : Nat → Bool} {fuel : Nat} {t : TypeId} {cs : List Value} {ms : Array (String × TypeId)} {x : DataW Unit × List MemPlace} (ht : P.underlying t = some (.interface ms))
    (h : DataW.trod (fun _ => ()) P w 0 sp false fuel t cs = some x) : ∃ ev, cs = [ev] ∧ (ev = .nilIface ∨ ∃ te pe, ev = .iface te pe) := by
  cases fuel with
  | zero => simp [DataW.trod] at h
  | succ n =>
    unfold DataW.trod at h
    rw [ht] at h
    split at h <;> simp_all
theorem err_at {n : String} {d : DataW Unit} {r : List (String × DataW Unit)} {W : World} {g : Nat} (h : laidMet Tryz.prog ((n, d) :: r) W) (hg : Tryz.prog.globalNamed n = some g) (ht : (Tryz.prog.globals[g]?).map (·.type) = some 108) : ErrAt W g := by
  obtain ⟨ps, ⟨g0, t0, cs0, f0, p0, q0, hg0, ht0, hv0, hd0, _, _⟩, _, _⟩ := h
  obtain rfl := Option.some.inj (hg.symm.trans hg0)
  obtain rfl := Option.some.inj (ht.symm.trans ht0)
  obtain ⟨ev, e, hev⟩ := iface_of_trod Tryz.underlying108 hd0
  refine ⟨ev, ?_, hev⟩
  have := World.var?_cell hg0 hv0 0
  rw [this, ← Array.getElem?_toList, e]
  rfl
theorem gSyn : Tryz.prog.globalNamed "strconv.ErrSyntax" = some 5 := by kernel_rfl
theorem gRng : Tryz.prog.globalNamed "strconv.ErrRange" = some 6 := by kernel_rfl
theorem tSyn : (Tryz.prog.globals[5]?).map (·.type) = some 108 := by kernel_rfl
theorem tRng : (Tryz.prog.globals[6]?).map (·.type) = some 108 := by kernel_rfl
end Go.Proofs.YtkaolpnbddjdpaaGreatDoor
namespace Go.Proofs.YtkaolpnbddjdpaaGreatDoor
open Go.ChangeShapes Go.WideShapes Go.ChangeAt Go.RowKit
theorem tab_at {r : List (String × DataW Unit)} {W : World} (h : laidMet Tryz.prog (("loop.example/g00096/impl.tables", Rows.laid_loop_example_g00096_impl_tables) :: r) W) : TablesAt W := by
  obtain ⟨ps, ⟨g0, t0, cs0, f0, p0, q0, hg0, ht0, hv0, hd0, _, _⟩, _, _⟩ := h
  obtain rfl := Option.some.inj (gTab.symm.trans hg0)
  obtain rfl := Option.some.inj (tTab.symm.trans ht0)
  rw [laid_is] at hd0
  obtain ⟨xs, m, rfl, hx, hlen, hn, hel⟩ := DataW.trod_array Tryz.underlying208 hd0
  rw [cTab] at hlen
  rw [cKind] at hel
  simp only [Prod.mk.injEq, DataW.agg.injEq] at hx
  have hx1 := hx.1
  intro k h1 h7
  have hk : (xs.map (·.1))[k]? = some (kindD k) := by
    rw [← hx1]
    obtain rfl | rfl | rfl | rfl | rfl | rfl | rfl : k = 1 ∨ k = 2 ∨ k = 3 ∨ k = 4 ∨ k = 5 ∨ k = 6 ∨ k = 7 := by omega
    all_goals rfl
  rw [List.getElem?_map] at hk
  obtain ⟨⟨d, p⟩, hxk, hd⟩ := Option.map_eq_some_iff.1 hk
  simp only at hd
  subst hd
  have h2 := hel k (by omega)
  rw [hxk] at h2
  have hne : rowsK k ≠ [] := by
    obtain rfl | rfl | rfl | rfl | rfl | rfl | rfl : k = 1 ∨ k = 2 ∨ k = 3 ∨ k = 4 ∨ k = 5 ∨ k = 6 ∨ k = 7 := by omega
    all_goals (intro e; cases e)
  obtain ⟨b, off, cap, hcs, hc1, hc2, hb, hR⟩ := kind_at hne h2
  have c0 := World.var?_cell hg0 hv0 (k * 2)
  have c1 := World.var?_cell hg0 hv0 (k * 2 + 1)
  have g0 : cs0.toList[k * 2]? = some (.string (bs (nameK k))) := by
    have := congrArg (·[0]?) hcs
    simpa [List.getElem?_take, List.getElem?_drop] using this
  have g1 : cs0.toList[k * 2 + 1]? = some (.slice (some ⟨b, off, none⟩) (rowsK k).length cap) := by
    have := congrArg (·[1]?) hcs
    simpa [List.getElem?_take, List.getElem?_drop] using this
  simp only [Array.getElem?_toList] at g0 g1
  exact ⟨c0.trans g0, b, off, cap, c1.trans g1, hc1, hc2, hb, hR⟩
end Go.Proofs.YtkaolpnbddjdpaaGreatDoor
