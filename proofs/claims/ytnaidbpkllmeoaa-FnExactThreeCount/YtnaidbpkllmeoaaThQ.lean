/- Comparison of two counts that are alike. -/
import Derived.Test.YtnaidbpkllmeoaaThB5
import Derived.Deep.Light
namespace Go.Proofs.Ytnaidbpkllmeoaa
open Go.ChangeShapes Go.WideShapes Go.ChangeAt Go.RowKit
theorem two_newQ (w : World) (o1 o2 : Obj) : ((w.alloc o1).alloc o2).heap[w.heap.size]? = some o1 ∧ ((w.alloc o1).alloc o2).heap[w.heap.size + 1]? = some o2 := by
  constructor
  · exact (((Below.refl (w.alloc o1).heap.size _).alloc (Nat.le_refl _) o2).block _ (by simp)).trans (World.alloc_heap_new _ _)
  · have := World.alloc_heap_new (w.alloc o1) o2
    simpa using this
set_option maxHeartbeats 4000000 in
theorem eqThr_any (t : Thr) (w : World) : Calls Try.prog 16 #[.agg #[.int .i64 t.nw, .int .i64 t.pt, .int .i64 t.wy, .int .i64 t.dn, .int .i64 t.gn], .agg #[.int .i64 t.nw, .int .i64 t.pt, .int .i64 t.wy, .int .i64 t.dn, .int .i64 t.gn]] w fun e w' => e = .returned (.bool true) ∧ Below w.heap.size w w' := by
  obtain ⟨W1, hW1⟩ : ∃ W1, (w.alloc (.cells #[.int .i64 t.nw, .int .i64 t.pt, .int .i64 t.wy, .int .i64 t.dn, .int .i64 t.gn] 32)).alloc (.cells #[.int .i64 t.nw, .int .i64 t.pt, .int .i64 t.wy, .int .i64 t.dn, .int .i64 t.gn] 32) = W1 := ⟨_, rfl⟩
  have hb1 : Below w.heap.size w W1 := by rw [← hW1]; exact ((Below.refl _ _).alloc (Nat.le_refl _) _).alloc (by simp) _
  obtain ⟨i1, i2⟩ := two_newQ w (.cells #[.int .i64 t.nw, .int .i64 t.pt, .int .i64 t.wy, .int .i64 t.dn, .int .i64 t.gn] 32) (.cells #[.int .i64 t.nw, .int .i64 t.pt, .int .i64 t.wy, .int .i64 t.dn, .int .i64 t.gn] 32)
  rw [hW1] at i1 i2
  obtain ⟨c0, c1, c2, c3, c4⟩ := box5T i1
  obtain ⟨d0, d1, d2, d3, d4⟩ := box5T i2
  have HB : Hid (Below w.heap.size w W1) := hb1
  clear hb1 i1 i2
  go_enter Try.func16, Try.ntmps16
  go_upto_region 1 with fail
  try rw [hW1]
  clear hW1
  go_wp2
  go_ret
  exact ⟨rfl, HB.out⟩
end Go.Proofs.Ytnaidbpkllmeoaa
