/- slices.AppendSeq and slices.Collect of a map's keys. -/
import Derived.Test.YtfdfanleigcfpaaKyI
namespace Go.Proofs.Ytfdfanleigcfpaa
open Go.ChangeShapes Go.WideShapes Go.ChangeAt Go.RowKit Go.Shelf
attribute [local go_sem] Oper.semAt_some
theorem cells_two_at (w : World) (x : ByteArray × ByteArray) (t : TypeId) (g : Nat) (hg : g = w.heap.size) : ∀ j u, (kc x)[j]? = some u → (w.alloc (.cells #[.string x.1, .string x.2] t)).cell? ((⟨g, 0, none⟩ : Addr).add j) = some u := by
  subst hg
  intro j u h
  have e := World.alloc_heap_new w (.cells #[.string x.1, .string x.2] t)
  have ha : (⟨w.heap.size, 0, none⟩ : Addr).add j = ⟨w.heap.size, j, none⟩ := by unfold Addr.add; split <;> simp_all
  rw [ha]
  unfold World.cell?
  rw [e]
  simpa [kc] using h
theorem EK.alloc {n₀ E : Nat} {w W : World} {v : Value} {xs : List (ByteArray × ByteArray)} (h : EK n₀ E w W v xs) (o : Obj) : EK n₀ E w (W.alloc o) v xs := by
  refine ⟨h.box.alloc o, h.row.alloc o, h.bel.alloc h.sz o, h.hn, h.w0, h.nil⟩
set_option maxRecDepth 100000 in
set_option maxHeartbeats 4000000 in
theorem appendSeq_any (Bm b : Nat) (kf : Crs → ByteArray × ByteArray) (cs : List Crs) (hl : cs.length ≤ 1000) (w : World) (hBm : Bm < w.heap.size) (hm : w.cell? ⟨Bm, 0, none⟩ = some (.map (some b))) (hown : MC w b kf cs) :
    Calls Try.prog 43 #[.slice none 0 0, .func (.func 41) #[] #[.pointer (some ⟨Bm, 0, none⟩)]] w fun e w' =>
      ∃ v ss, e = .returned v ∧ ss.Perm (cs.map kf) ∧ w'.ownsRow w.heap.size 53 2 v ss.length (ss.flatMap kc) ∧ (v = .slice none 0 0 ↔ ss = []) ∧ Below w.heap.size w w' := by
  obtain ⟨i0, hi, hz0, hz1, hz2⟩ := info_parts infoKey
  refine (callsIn_wide (n := 5)).1 ?_
  refine callsIn_of_wp_marks Try.func43 rfl trivial ?_ rfl
  simp only [Try.ntmps43, List.size_toArray, List.length_cons, List.length_nil, Nat.reduceAdd, Nat.reduceSub, Array.replicate_succ, Array.replicate_zero, List.push_toArray, List.append_toArray, List.nil_append, List.cons_append]
  gi_wp2_with fail
  have hb0 : Below w.heap.size w (w.alloc (.cells #[.slice none 0 0] 63)) := (Below.refl _ _).alloc (Nat.le_refl _) _
  have hE0 : EK w.heap.size w.heap.size w (w.alloc (.cells #[.slice none 0 0] 63)) (.slice none 0 0) [] := ⟨Boxed.new _ _ _, World.ownsRow_nil _ _ _ _, hb0, Nat.le_refl _, Nat.le_refl _, by simp⟩
  refine wpIn_rangeFunc_ownH rfl (by omega) (gf := 41) (lb := #[.pointer (some ⟨Bm, 0, none⟩)]) rfl trivial (enters_of Try.func41 (by kernel_rfl) rfl)
    (keys_stops Fence.wide _ trivial rfl (by omega) Bm b kf cs hl w hBm hm hown) KeepsWalks.trans (fun W l o o' _ hl _ hw => KeepsWalks.putObj o' hl hw) hb0 (fun _ => rfl)
    (fun pre W => ∃ v, EK w.heap.size w.heap.size w W v pre) (fun _ _ _ => False) (EK.own (by simp)) (fun _ _ _ _ _ hs _ _ => hs) ⟨_, hE0⟩
    (fun x a' W => ∃ Bk, a' = { tmps := #[.slice none 0 0, .func (.func 41) #[] #[.pointer (some ⟨Bm, 0, none⟩)], .pointer (some ⟨w.heap.size, 0, none⟩), undef, .slice none 0 0, .pointer (some ⟨Bk, 0, none⟩), .func (.func 41) #[] #[.pointer (some ⟨Bm, 0, none⟩)], .agg #[.string x.1, .string x.2], undef, undef, undef, undef, undef], defers := [] } ∧ W.heap[Bk]? = some (.cells #[.string x.1, .string x.2] 53)) ?hAx ?assign ?body ?done ?stop
  case hAx =>
    rintro x a' _ W W' row ⟨Bk, he, hk⟩ hg hr
    refine ⟨Bk, he, (hg.block Bk (Array.getElem?_eq_some_iff.1 hk).1 fun e => ?_).trans hk⟩
    obtain ⟨_, o, ho, hc⟩ := hr Bk e.symm
    rw [hk] at ho
    cases ho
    simp [Obj.isCells] at hc
  case assign =>
    rintro l pre x W K ⟨v, hE⟩ hK
    unfold kv
    gi_wp2
    exact hK _ _ ((KeepsOthers.alloc W _).from _) (KeepsWalks.alloc W _) ⟨v, hE.alloc _⟩ ⟨W.heap.size, rfl, World.alloc_heap_new _ _⟩
  case body =>
    rintro l pre x a' W _ _ ⟨v, hE⟩ ⟨Bk, rfl, hk⟩ hlen
    have hv := hE.box.cell
    have hvf := hE.box.frozen
    have k0 : W.cell? ⟨Bk, 0, none⟩ = some (.string x.1) := by simp [World.cell?, hk]
    have k1 : W.cell? ⟨Bk, 1, none⟩ = some (.string x.2) := by simp [World.cell?, hk]
    have hmx : pre.length + 1 ≤ maxLen := by unfold maxLen; omega
    gi_wp2_with (gi_at_builtin; refine wpListIn_append_own _ rfl _ _ 63 rfl w.heap.size 53 i0 (.agg #[.string ⟨#[]⟩, .string ⟨#[]⟩]) 2 32 Try.underlying63 hi hz0 hz1 hz2 rfl (by decide) _ _ _ rfl (hE.row.alloc _) ⟨_, 0, none⟩ 1 1 (kc x) rfl rfl (cells_two_at _ _ _ _ (by simp)) (by simp [Value.oneCell', kc]) hmx (by omega) (by have := hE.sz; simp at this ⊢; omega) ?_; intro v' w4 hown' hgrow _; obtain ⟨g', cap', rfl⟩ := ownsRow_succ hown'; obtain ⟨hv1, hE4, hk4⟩ := hE.app hown' hgrow; have hc1 := hv1.cell; have hf1 := hv1.frozen)
    exact ⟨hk4.from _, KeepsWalks.of_others hk4, ⟨_, hE4⟩⟩
  case done =>
    rintro D xs W hD hS ⟨v, hE⟩ hK
    have hv := hE.box.cell
    gi_wp2
    refine ⟨by simp, .inl ⟨_, _, rfl, run_takeDeferred hK, ?_⟩⟩
    exact ⟨_, results_tmp rfl _ _ _, v, xs, rfl, hS, ownsRow_putObj hE.row _ hK rfl, hE.nil, hE.bel.trans (belowK_b (w := w) (Nat.le_refl _) W D _ _ (by simp at hD; omega) hK rfl rfl)⟩
  case stop =>
    intro D c pre W _ _ h
    exact h.elim
set_option maxHeartbeats 1000000 in
theorem collect_any (Bm b : Nat) (kf : Crs → ByteArray × ByteArray) (cs : List Crs) (hl : cs.length ≤ 1000) (w : World) (hBm : Bm < w.heap.size) (hm : w.cell? ⟨Bm, 0, none⟩ = some (.map (some b))) (hown : MC w b kf cs) :
    Calls Try.prog 39 #[.func (.func 41) #[] #[.pointer (some ⟨Bm, 0, none⟩)]] w fun e w' =>
      ∃ v ss, e = .returned v ∧ ss.Perm (cs.map kf) ∧ w'.ownsRow w.heap.size 53 2 v ss.length (ss.flatMap kc) ∧ (v = .slice none 0 0 ↔ ss = []) ∧ Below w.heap.size w w' := by
  have H := appendSeq_any Bm b kf cs hl w hBm hm hown
  clear hm hown
  go_enter Try.func39, Try.ntmps39
  go_wp2_with (go_at_call 43; refine H.mono ?_; rintro e w1 ⟨v, ss, rfl, hS, hr, hn, hb⟩)
  go_ret
  exact ⟨v, ss, rfl, hS, hr, hn, hb⟩
set_option maxHeartbeats 1000000 in
theorem keys_any (b : Nat) (w : World) : Calls Try.prog 34 #[.map (some b)] w fun e w' => e = .returned (.func (.func 41) #[] #[.pointer (some ⟨w.heap.size, 0, none⟩)]) ∧ w' = w.alloc (.cells #[.map (some b)] 43) := by
  go_enter Try.func34, Try.ntmps34
  go_wp2
  go_ret
  exact ⟨rfl, rfl⟩
end Go.Proofs.Ytfdfanleigcfpaa
