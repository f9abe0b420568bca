/- Contract of impl.Unescape: at every four numbers and every text it answers as UnOut tells and writes nothing that was there. -/
import Derived.Test.YtcohoflilonnjaaWithout
import Derived.Test.YtcohoflilonnjaaSynText
namespace Go.Proofs.Ytcohoflilonnjaa
open Go.ChangeShapes Go.WideShapes Go.ChangeAt Go.RowKit
/-- What Unescape tells. -/
def UnOut (a b c d : Int) (s : ByteArray) (t : ByteArray) (at_ code : Int) : Prop :=
  (20000 < s.size ∧ t = ⟨#[]⟩ ∧ at_ = 0 ∧ code = 2) ∨ (s.size ≤ 20000 ∧ rightB a b c d = false ∧ t = ⟨#[]⟩ ∧ at_ = 0 ∧ code = 1) ∨
  (s.size ≤ 20000 ∧ rightB a b c d = true ∧ ∃ P f, Res a b c d s P f ∧ ((0 ≤ f ∧ t = ⟨#[]⟩ ∧ at_ = f ∧ code = 3) ∨ (f < 0 ∧ t = strOfNums P ∧ at_ = 0 ∧ code = 0)))
theorem res3 {W : World} {t : Nat} {z0 z1 z2 : Value} {b : Nat} (hb : W.heap[b]? = some (.cells #[z0, z1, z2] t)) :
    W.cell? ⟨b, 0, none⟩ = some z0 ∧ W.cell? ⟨b, 1, none⟩ = some z1 ∧ W.cell? ⟨b, 2, none⟩ = some z2 ∧ (∀ o, W.frozen? ⟨b, o, none⟩ = false) :=
  ⟨by simp [World.cell?, hb], by simp [World.cell?, hb], by simp [World.cell?, hb], fun o => by simp [World.frozen?, hb]⟩
theorem sets3 {B : Nat} {w W : World} (h : Below B w W) {b : Nat} (hb : B ≤ b) (v0 v1 v2 : Value) : Below B w (((W.setCell ⟨b, 0, none⟩ v0).setCell ⟨b, 1, none⟩ v1).setCell ⟨b, 2, none⟩ v2) :=
  ((h.setCell hb _).setCell hb _).setCell hb _
set_option maxHeartbeats 400000 in
theorem un_impl_big (a b c d : Int) (s : ByteArray) (w : World) (hs : 20000 < s.size) : Calls Try.prog 12 #[.agg #[.int .i64 a, .int .i64 b, .int .i64 c, .int .i64 d], .string s] w fun e w' => e = .returned (.agg #[.string ⟨#[]⟩, .int .i64 0, .int .i64 2]) ∧ Below w.heap.size w w' := by
  have hs' : (20000 : Int) < (s.size : Int) := by omega
  go_enter Try.func12, Try.ntmps12
  go_wp2
  exact bodyPost_ret (v := .agg #[.string ⟨#[]⟩, .int .i64 0, .int .i64 2]) (by simp [results, Try.results12, go_sem]) rfl ⟨rfl, ((Below.refl _ _).alloc (Nat.le_refl _) _).alloc (by simp) _⟩
set_option maxHeartbeats 1000000 in
theorem un_impl_small (a b c d : Int) (s : ByteArray) (w : World) (hs : s.size ≤ 20000) : Calls Try.prog 12 #[.agg #[.int .i64 a, .int .i64 b, .int .i64 c, .int .i64 d], .string s] w fun e w' => ∃ t at_ code, e = .returned (.agg #[.string t, .int .i64 at_, .int .i64 code]) ∧ UnOut a b c d s t at_ code ∧ Below w.heap.size w w' := by
  have hs' : (s.size : Int) ≤ 20000 := by omega
  go_enter Try.func12, Try.ntmps12
  go_wp2_with fail
  refine (right_impl a b c d _).mono ?_
  rintro e w1 ⟨rfl, hb1⟩
  have f0 := (Below.block hb1 w.heap.size (by simp; omega)).trans ((Below.heap_alloc _ _ _ (by simp)).trans (World.alloc_heap_new w _))
  have f1 := (Below.block hb1 (w.heap.size + 1) (by simp)).trans (heap_new2 w (.cells #[.int .i64 a, .int .i64 b, .int .i64 c, .int .i64 d] 24) (.cells #[.string ⟨#[]⟩, .int .i64 0, .int .i64 0] 30))
  have hB1 : Below w.heap.size w w1 := ((((Below.refl _ _).alloc (Nat.le_refl _) _).alloc (by simp) _).trans (hb1.mono (by simp; omega)))
  have hsz : w.heap.size + 1 < w1.heap.size := by have := hb1.size; simp at this; omega
  have HB : Hid (Below w.heap.size w w1 ∧ w1.heap[w.heap.size + 1]? = some (.cells #[.string ⟨#[]⟩, .int .i64 0, .int .i64 0] 30)) := ⟨hB1, f1⟩
  obtain ⟨r0, r1, r2, rz⟩ := res3 f1
  have q0 : w1.cell? ⟨w.heap.size, 0, none⟩ = some (.int .i64 a) := by simp [World.cell?, f0]
  have q1 : w1.cell? ⟨w.heap.size, 1, none⟩ = some (.int .i64 b) := by simp [World.cell?, f0]
  have q2 : w1.cell? ⟨w.heap.size, 2, none⟩ = some (.int .i64 c) := by simp [World.cell?, f0]
  have q3 : w1.cell? ⟨w.heap.size, 3, none⟩ = some (.int .i64 d) := by simp [World.cell?, f0]
  clear f0 f1 hb1 hB1
  cases hr : rightB a b c d
  · go_wp2
    exact bodyPost_ret (v := .agg #[.string ⟨#[]⟩, .int .i64 0, .int .i64 1]) (by simp [results, Try.results12, go_sem, r0, r1, r2]) rfl ⟨_, _, _, rfl, .inr (.inl ⟨hs, hr, rfl, rfl, rfl⟩), sets3 HB.out.1 (by omega) _ _ _⟩
  · go_wp2_with fail
    refine (without_in a b c d s _ hs).mono ?_
    rintro e w2 ⟨P, f, rfl, hR, hb2⟩
    have hB2 := HB.out.1.trans (hb2.mono (by omega))
    have f1 := (Below.block hb2 (w.heap.size + 1) (by omega)).trans HB.out.2
    obtain ⟨t0, t1, t2, tz⟩ := res3 f1
    have HR : Hid (Res a b c d s P f ∧ Below w.heap.size w w2) := ⟨hR, hB2⟩
    clear hR hb2 hB2 f1 HB r0 r1 r2 rz q0 q1 q2 q3
    by_cases hf : 0 ≤ f
    · go_wp2
      exact bodyPost_ret (v := .agg #[.string ⟨#[]⟩, .int .i64 f, .int .i64 3]) (by simp [results, Try.results12, go_sem, t0, t1, t2]) rfl ⟨_, _, _, rfl, .inr (.inr ⟨hs, hr, P, f, HR.out.1, .inl ⟨hf, rfl, rfl, rfl⟩⟩), sets3 HR.out.2 (by omega) _ _ _⟩
    · have hf' : f < 0 := by omega
      go_wp2
      exact bodyPost_ret (v := .agg #[.string (strOfNums P), .int .i64 0, .int .i64 0]) (by simp [results, Try.results12, go_sem, t0, t1, t2]) rfl ⟨_, _, _, rfl, .inr (.inr ⟨hs, hr, P, f, HR.out.1, .inr ⟨hf', rfl, rfl, rfl⟩⟩), sets3 HR.out.2 (by omega) _ _ _⟩
theorem un_impl (a b c d : Int) (s : ByteArray) (w : World) : Calls Try.prog 12 #[.agg #[.int .i64 a, .int .i64 b, .int .i64 c, .int .i64 d], .string s] w fun e w' => ∃ t at_ code, e = .returned (.agg #[.string t, .int .i64 at_, .int .i64 code]) ∧ UnOut a b c d s t at_ code ∧ Below w.heap.size w w' := by
  by_cases hs : s.size ≤ 20000
  · exact un_impl_small a b c d s w hs
  · refine (un_impl_big a b c d s w (by omega)).mono ?_
    rintro e w' ⟨rfl, hb⟩
    exact ⟨_, _, _, rfl, .inl ⟨by omega, rfl, rfl, rfl⟩, hb⟩
end Go.Proofs.Ytcohoflilonnjaa
