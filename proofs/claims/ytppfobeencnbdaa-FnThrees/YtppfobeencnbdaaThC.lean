/- Contracts of the program's counts: add, ThreeCount. -/
import Derived.Test.YtppfobeencnbdaaThB5
import Derived.Test.YtppfobeencnbdaaThV
import Derived.Test.YtppfobeencnbdaaLnR
namespace Go.Proofs.Ytppfobeencnbdaa
open Go.ChangeShapes Go.WideShapes Go.ChangeAt Go.RowKit
set_option maxHeartbeats 4000000 in
theorem add_any (P : Nat) (t : Thr) (ht : ThLe t 1000000) (z : Int) (w : World) (h : w.heap[P]? = some (.cells #[.int .i64 t.nw, .int .i64 t.pt, .int .i64 t.wy, .int .i64 t.dn, .int .i64 t.gn] 28)) :
    Calls Try.prog 21 #[.pointer (some ⟨P, 0, none⟩), .int .i64 z] w fun e w' => e = .returned (.tuple #[]) ∧ w'.heap[P]? = some (.cells #[.int .i64 (bmp t z).nw, .int .i64 (bmp t z).pt, .int .i64 (bmp t z).wy, .int .i64 (bmp t z).dn, .int .i64 (bmp t z).gn] 28) ∧ ∀ n a, Below n a w → n ≤ P → Below n a w' := by
  obtain ⟨nw, pt, wy, dn, gn⟩ := t
  obtain ⟨⟨l1, h1⟩, ⟨l2, h2⟩, ⟨l3, h3⟩, ⟨l4, h4⟩, ⟨l5, h5⟩⟩ := ht
  dsimp only at h h1 h2 h3 h4 h5 l1 l2 l3 l4 l5
  have HT : Hid (w.heap[P]? = some (.cells #[.int .i64 nw, .int .i64 pt, .int .i64 wy, .int .i64 dn, .int .i64 gn] 28)) := h
  have hfz := frozeT5 h
  obtain ⟨c0, c1, c2, c3, c4⟩ := box5T h
  clear h
  by_cases e1 : z = 1
  · subst e1
    have hw : IntKind.i64.wrap (nw + 1) = nw + 1 := by rw [IntKind.wrap_i64]; omega
    go_enter Try.func21, Try.ntmps21
    go_wp2
    go_end0
    refine ⟨rfl, ?_, fun n a hb hn => hb.setCell hn _⟩
    simp [bmp, one5T0 HT.out]
  by_cases e2 : z = 2
  · subst e2
    have hw : IntKind.i64.wrap (pt + 1) = pt + 1 := by rw [IntKind.wrap_i64]; omega
    go_enter Try.func21, Try.ntmps21
    go_wp2
    go_end0
    refine ⟨rfl, ?_, fun n a hb hn => hb.setCell hn _⟩
    simp [bmp, one5T1 HT.out]
  by_cases e3 : z = 3
  · subst e3
    have hw : IntKind.i64.wrap (wy + 1) = wy + 1 := by rw [IntKind.wrap_i64]; omega
    go_enter Try.func21, Try.ntmps21
    go_wp2
    go_end0
    refine ⟨rfl, ?_, fun n a hb hn => hb.setCell hn _⟩
    simp [bmp, one5T2 HT.out]
  by_cases e4 : z = 4
  · subst e4
    have hw : IntKind.i64.wrap (dn + 1) = dn + 1 := by rw [IntKind.wrap_i64]; omega
    go_enter Try.func21, Try.ntmps21
    go_wp2
    go_end0
    refine ⟨rfl, ?_, fun n a hb hn => hb.setCell hn _⟩
    simp [bmp, one5T3 HT.out]
  by_cases e5 : z = 5
  · subst e5
    have hw : IntKind.i64.wrap (gn + 1) = gn + 1 := by rw [IntKind.wrap_i64]; omega
    go_enter Try.func21, Try.ntmps21
    go_wp2
    go_end0
    refine ⟨rfl, ?_, fun n a hb hn => hb.setCell hn _⟩
    simp [bmp, one5T4 HT.out]
  go_enter Try.func21, Try.ntmps21
  go_wp2
  go_end0
  refine ⟨rfl, ?_, fun n a hb hn => hb⟩
  simp [bmp, e1, e2, e3, e4, e5, HT.out]
end Go.Proofs.Ytppfobeencnbdaa
