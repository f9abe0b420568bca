/- The place of a line in a rising list (pure), and the program's comparison once more. -/
import Derived.Test.YtppfobeencnbdaaLnR
import Derived.Test.YtppfobeencnbdaaLnS0
import Derived.Deep.Cut
import Derived.Deep.CutRange
import Derived.Deep.QuietTactic
import Derived.BigQuiet
import Derived.BigRegion
import Derived.Shelf.SlSortCmp.QuietGrown
import Derived.Deep.LoopGhost
namespace Go.Proofs.Ytppfobeencnbdaa
open Go.ChangeShapes Go.WideShapes Go.ChangeAt Go.RowKit
open Go.Sort
theorem cnt_at {α : Type} (p : α → Bool) : ∀ (l : List α) (i : Nat), i ≤ l.length → (∀ j x, j < i → l[j]? = some x → p x = true) → (∀ j x, i ≤ j → l[j]? = some x → p x = false) → l.countP p = i
  | [], i, hi, _, _ => by simp at hi; simp [hi]
  | a :: r, 0, _, _, h2 => by
    rw [List.countP_eq_zero]
    intro x hx
    obtain ⟨j, hj⟩ := List.mem_iff_getElem?.1 hx
    simp [h2 j x (Nat.zero_le _) hj]
  | a :: r, i + 1, hi, h1, h2 => by
    have ha : p a = true := h1 0 a (Nat.succ_pos _) rfl
    rw [List.countP_cons_of_pos ha, cnt_at p r i (by simpa using hi) (fun j x hj hx => h1 (j + 1) x (by omega) (by simpa using hx)) (fun j x hj hx => h2 (j + 1) x (by omega) (by simpa using hx))]
/-- Where such a line stands or would stand. -/
def plcL (rs : List OLn) (t : OLn) : Nat := rs.countP fun x => befL x t
theorem lcmp_grw (a b : OLn) (w : World) : Calls Try.prog 27 #[.agg #[.string a.partner, .string a.ref, .int .i64 a.no, .string a.item, .int .i64 a.ordered, .int .i64 a.sent, .int .i64 a.got, .int .i64 a.cut], .agg #[.string b.partner, .string b.ref, .int .i64 b.no, .string b.item, .int .i64 b.ordered, .int .i64 b.sent, .int .i64 b.got, .int .i64 b.cut]] w fun e w' => e = .returned (.int .i64 (lcmp a b)) ∧ ∃ q os', w' = grow (w.drewN q) os' :=
  (lcmp_grows a b w).mono fun _ _ ⟨he, o1, o2, o3, hw⟩ => ⟨he, 1, #[o1, o2, o3], by rw [hw]; rfl⟩
theorem sorted_mono {rs : List OLn} (hs : rs.Pairwise fun a b => befL a b = true) {t : OLn} {i j : Nat} {x y : OLn} (hij : i ≤ j) (hx : rs[i]? = some x) (hy : rs[j]? = some y) (h : lcmp y t < 0) : lcmp x t < 0 := by
  rcases Nat.lt_or_ge i j with g | g
  · rw [List.pairwise_iff_getElem] at hs
    obtain ⟨hi, e1⟩ := List.getElem?_eq_some_iff.1 hx
    obtain ⟨hj, e2⟩ := List.getElem?_eq_some_iff.1 hy
    have := hs i j hi hj g
    rw [e1, e2] at this
    rw [lcmp_neg] at h ⊢
    exact befL_trans this h
  · obtain rfl : i = j := by omega
    rw [hx] at hy
    cases hy
    exact h
end Go.Proofs.Ytppfobeencnbdaa
