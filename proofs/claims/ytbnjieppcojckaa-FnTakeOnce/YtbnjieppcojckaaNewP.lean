/- Contracts of impl.PartnerNew and of its model. -/
import Derived.Test.YtbnjieppcojckaaPnP
import Derived.Test.YtbnjieppcojckaaShClone
namespace Go.Proofs.Ytbnjieppcojckaa
open Go.ChangeShapes Go.WideShapes Go.ChangeAt Go.RowKit
/-- What PartnerNew tells. -/
def newP (t : ByteArray) : Ptn := if nameB t then ⟨t, 1, 1, []⟩ else ⟨⟨#[]⟩, 0, 0, []⟩
theorem newP_seen (t : ByteArray) : (newP t).seen = [] := by
  unfold newP
  split <;> rfl
theorem newP_size (t : ByteArray) : (newP t).name.size ≤ 12 := by
  unfold newP
  split
  · rename_i h
    dsimp only
    simp only [nameB, Bool.and_eq_true, decide_eq_true_eq] at h
    omega
  · show (0 : Nat) ≤ 12
    omega
theorem nameB_le {t : ByteArray} (h : nameB t = true) : t.size ≤ 12 := by
  simp only [nameB, Bool.and_eq_true, decide_eq_true_eq] at h
  omega
theorem newP_row (t : ByteArray) (W : World) : RPt W (.slice none 0 0) (newP t) := by
  refine ⟨?_, ?_⟩
  · rw [newP_seen]
    exact RowSn.nil W
  · have := newP_size t
    omega
set_option maxHeartbeats 2000000 in
theorem ptNew_impl (t : ByteArray) (w : World) : Calls Try.prog 24 #[.string t] w fun e w' => e = .returned (.agg #[.string (newP t).name, .int .i64 (newP t).low, .int .i64 (newP t).next, .slice none 0 0]) ∧ Below w.heap.size w w' := by
  go_enter Try.func24, Try.ntmps24
  go_wp2_with fail
  refine (isName_any t _).mono ?_
  rintro e w1 ⟨rfl, rfl⟩
  cases hn : nameB t
  · go_wp2
    exact bodyPost_ret (v := .agg #[.string ⟨#[]⟩, .int .i64 0, .int .i64 0, .slice none 0 0]) (by simp [results, Try.results24, go_sem]) rfl ⟨by simp [newP, hn], (Below.refl _ _).alloc (Nat.le_refl _) _⟩
  · have hs := nameB_le hn
    go_wp2_with fail
    have b0 : Below w.heap.size w (w.alloc (.cells #[.string ⟨#[]⟩, .int .i64 0, .int .i64 0, .slice none 0 0] 30)) := (Below.refl _ _).alloc (Nat.le_refl _) _
    refine (clone_any t _ (by omega)).mono ?_
    rintro e w2 ⟨rfl, hb2⟩
    have blk : w2.heap[w.heap.size]? = some (.cells #[.string ⟨#[]⟩, .int .i64 0, .int .i64 0, .slice none 0 0] 30) := (hb2.block _ (by simp)).trans (World.alloc_heap_new _ _)
    have c0 : w2.cell? ⟨w.heap.size, 0, none⟩ = some (.string ⟨#[]⟩) := by simp [World.cell?, blk]
    have c1 : w2.cell? ⟨w.heap.size, 1, none⟩ = some (.int .i64 0) := by simp [World.cell?, blk]
    have c2 : w2.cell? ⟨w.heap.size, 2, none⟩ = some (.int .i64 0) := by simp [World.cell?, blk]
    have c3 : w2.cell? ⟨w.heap.size, 3, none⟩ = some (.slice none 0 0) := by simp [World.cell?, blk]
    have z : ∀ o, w2.frozen? ⟨w.heap.size, o, none⟩ = false := fun o => by simp [World.frozen?, blk]
    have HB : Hid (Below w.heap.size w w2) := b0.trans (hb2.mono (by simp))
    clear hb2 blk b0
    go_wp2
    exact bodyPost_ret (v := .agg #[.string t, .int .i64 1, .int .i64 1, .slice none 0 0]) (by simp [results, Try.results24, go_sem, c0, c1, c2, c3]) rfl ⟨by simp [newP, hn], (((HB.out.setCell (Nat.le_refl _) _).setCell (Nat.le_refl _) _).setCell (Nat.le_refl _) _).setCell (Nat.le_refl _) _⟩
set_option maxHeartbeats 2000000 in
theorem ptNew_spec (t : ByteArray) (w : World) : Calls Try.prog 22 #[.string t] w fun e w' => e = .returned (.agg #[.string (newP t).name, .int .i64 (newP t).low, .int .i64 (newP t).next, .slice none 0 0]) ∧ Below w.heap.size w w' := by
  go_enter Try.func22, Try.ntmps22
  go_wp2_with fail
  refine (l01Name_any t _).mono ?_
  rintro e w1 ⟨rfl, rfl⟩
  cases hn : nameB t
  · go_wp2
    exact bodyPost_ret (v := .agg #[.string ⟨#[]⟩, .int .i64 0, .int .i64 0, .slice none 0 0]) (by simp [results, Try.results22, go_sem]) rfl ⟨by simp [newP, hn], (Below.refl _ _).alloc (Nat.le_refl _) _⟩
  · go_wp2
    exact bodyPost_ret (v := .agg #[.string t, .int .i64 1, .int .i64 1, .slice none 0 0]) (by simp [results, Try.results22, go_sem]) rfl ⟨by simp [newP, hn], (Below.refl _ _).alloc (Nat.le_refl _) _⟩
end Go.Proofs.Ytbnjieppcojckaa
