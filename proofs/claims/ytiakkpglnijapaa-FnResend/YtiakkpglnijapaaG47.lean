/- Texts of ours put together: TkR. -/
import Derived.Test.YtiakkpglnijapaaG41
import Derived.Test.YtiakkpglnijapaaG46
import Derived.Test.YtiakkpglnijapaaG13
namespace Go.Proofs.Ytiakkpglnijapaa
open Go.ChangeShapes Go.WideShapes Go.ChangeAt Go.RowKit
theorem set5_other (W : World) (k b o : Nat) (c : OutR) (hne : k ≠ b) : (((((W.setCell ⟨b, o, none⟩ (.string c.partner)).setCell ⟨b, o + 1, none⟩ (.int .i64 c.number)).setCell ⟨b, o + 2, none⟩ (.string c.text)).setCell ⟨b, o + 3, none⟩ (.int .i64 c.tries)).setCell ⟨b, o + 4, none⟩ (.int .i64 c.due)).heap[k]? = W.heap[k]? := by
  rw [set_other _ _ _ _ _ hne, set_other _ _ _ _ _ hne, set_other _ _ _ _ _ hne, set_other _ _ _ _ _ hne, set_other _ _ _ _ _ hne]
theorem LOu.write {b : Nat} {W : World} {a : Option Addr} {C : Nat} {L : List OutR} (h : LOu b W (.slice a L.length C) L) {p : Nat} (hp : p < L.length) (c : OutR) (hz : c.partner.size ≤ 9223372036854775807 ∧ c.text.size ≤ 9223372036854775807) : LOu b (((((W.setCell ⟨b, p * 5, none⟩ (.string c.partner)).setCell ⟨b, p * 5 + 1, none⟩ (.int .i64 c.number)).setCell ⟨b, p * 5 + 2, none⟩ (.string c.text)).setCell ⟨b, p * 5 + 3, none⟩ (.int .i64 c.tries)).setCell ⟨b, p * 5 + 4, none⟩ (.int .i64 c.due)) (.slice a L.length C) (L.set p c) := by
  obtain ⟨a', cap, e, hc⟩ := h.shape
  simp only [Value.slice.injEq, true_and] at e
  obtain ⟨rfl, rfl⟩ := e
  have hne : L ≠ [] := fun e => by rw [e] at hp; simp at hp
  obtain ⟨ea, n, f, hR, hn, hf⟩ := hc hne
  refine ⟨⟨a, C, by simp, fun _ => ⟨ea, n, _, ((((hR.set (p * 5) (.string c.partner)).set (p * 5 + 1) (.int .i64 c.number)).set (p * 5 + 2) (.string c.text)).set (p * 5 + 3) (.int .i64 c.tries)).set (p * 5 + 4) (.int .i64 c.due), by simpa using hn, fun i g hi => ?_⟩⟩, by simpa using h.len, fun i g hi => ?_⟩
  · rw [List.getElem?_set] at hi
    by_cases e1 : p = i
    · subst e1
      rw [if_pos rfl, if_pos hp] at hi
      cases hi
      refine ⟨?_, ?_, ?_, ?_, ?_⟩
      · rw [if_neg (by omega), if_neg (by omega), if_neg (by omega), if_neg (by omega), if_pos rfl]
      · rw [if_neg (by omega), if_neg (by omega), if_neg (by omega), if_pos rfl]
      · rw [if_neg (by omega), if_neg (by omega), if_pos rfl]
      · rw [if_neg (by omega), if_pos rfl]
      · rw [if_pos rfl]
    · rw [if_neg e1] at hi
      obtain ⟨r0, r1, r2, r3, r4⟩ := hf i g hi
      refine ⟨?_, ?_, ?_, ?_, ?_⟩
      all_goals rw [if_neg (by omega), if_neg (by omega), if_neg (by omega), if_neg (by omega), if_neg (by omega)]
      all_goals assumption
  · rw [List.getElem?_set] at hi
    split at hi
    · first | (cases hi; exact hz) | (split at hi <;> first | (cases hi; exact hz) | cases hi)
    · exact h.sizes i g hi
/-- The box X, the list in block b1, Sent growing, what was lost in block b3, the places still to come in channel C. -/
structure TR (X N C b1 b3 : Nat) (w1 W : World) (v1 v2 v3 : Value) (L : List OutR) (S : List SenR) (M : List OutR) (n s : Nat) (qs : List Nat) : Prop where
  kp : Keep X w1 W
  sz : w1.heap.size = N
  xN : X < N
  bx : W.heap[X]? = some (.cells #[v1, v2, v3, .int .i64 0] 30)
  l1 : LOu b1 W v1 L
  r2 : W.ownsRow N 66 3 v2 S.length (clSes S)
  l3 : LOu b3 W v3 M
  n1 : N ≤ b1
  n3 : N ≤ b3
  ne : L ≠ [] → M ≠ [] → b1 ≠ b3
  nC : N ≤ C
  ch : ∃ r, W.heap[C]? = some (.chan n (chB qs) true s r false)
section
variable {X N C b1 b3 : Nat} {w1 W W' : World} {v1 v2 v3 : Value} {L : List OutR} {S : List SenR} {M : List OutR} {n s : Nat} {qs : List Nat}
theorem TR.le (h : TR X N C b1 b3 w1 W v1 v2 v3 L S M n s qs) : N ≤ W.heap.size := by rw [← h.sz]; exact h.kp.size
theorem TR.below (h : TR X N C b1 b3 w1 W v1 v2 v3 L S M n s qs) (hb : Below W.heap.size W W') : TR X N C b1 b3 w1 W' v1 v2 v3 L S M n s qs := by
  obtain ⟨r, hr⟩ := h.ch
  exact ⟨h.kp.trans (Keep.of_below hb), h.sz, h.xN, (hb.block _ (Array.getElem?_eq_some_iff.1 h.bx).1).trans h.bx, h.l1.below hb, own_below h.r2 hb, h.l3.below hb, h.n1, h.n3, h.ne, h.nC, ⟨r, (hb.block _ (Array.getElem?_eq_some_iff.1 hr).1).trans hr⟩⟩
theorem LOu.blk {b : Nat} {v : Value} (h : LOu b W v L) (hn : L ≠ []) : ∃ xs, W.heap[b]? = some (.cells xs 25) := by
  obtain ⟨a, cap, e, hc⟩ := h.shape
  obtain ⟨_, m, f, hR, _⟩ := hc hn
  obtain ⟨xs, hx, _⟩ := hR
  exact ⟨xs, hx⟩
/-- The places come one by one. -/
theorem TR.recv {p : Nat} (h : TR X N C b1 b3 w1 W v1 v2 v3 L S M n s (p :: qs)) {r : Nat} (hr : W.heap[C]? = some (.chan n (chB (p :: qs)) true s r false)) : TR X N C b1 b3 w1 (W.setChan C n (chB qs) true s (r + 1) false) v1 v2 v3 L S M n s qs := by
  have hCl := (Array.getElem?_eq_some_iff.1 hr).1
  have hk : ∀ k, k ≠ C → (W.setChan C n (chB qs) true s (r + 1) false).heap[k]? = W.heap[k]? := fun k hne => by
    simp only [World.setChan]
    rw [Array.getElem?_setIfInBounds_ne (fun e => hne e.symm)]
  have hx := h.xN
  have hC := h.nC
  have hs := h.sz
  refine ⟨⟨h.kp.os, h.kp.tape, h.kp.output, by rw [Go.Conc.size_setChan]; exact h.kp.size, fun k hk1 hk2 => (hk k (by omega)).trans (h.kp.block k hk1 hk2)⟩, h.sz, h.xN, (hk X (by omega)).trans h.bx, h.l1.of_block fun hn => hk b1 (fun e => ?_), own_block h.r2 fun g hg => hk g (fun e => ?_), h.l3.of_block fun hn => hk b3 (fun e => ?_), h.n1, h.n3, h.ne, h.nC, ⟨r + 1, Go.Conc.heap_setChan _ _ _ _ _ _ _ _ hCl⟩⟩
  · obtain ⟨xs, hx⟩ := h.l1.blk hn
    rw [e, hr] at hx
    cases hx
  · subst e
    rcases h.r2.2 with ⟨e1, _⟩ | ⟨g', cap, cur, e1, _, h2, _⟩
    · rw [e1] at hg; cases hg
    · rw [e1] at hg
      simp only [Value.ownBlock, Option.some.injEq] at hg
      subst hg
      rw [hr] at h2
      cases h2
  · obtain ⟨xs, hx⟩ := h.l3.blk hn
    rw [e, hr] at hx
    cases hx
/-- Behind an append to Sent: box X and all else as it lay. -/
theorem TR.grown (h : TR X N C b1 b3 w1 W v1 v2 v3 L S M n s qs) (hg : W.grownBy W' v2.ownBlock) : W'.heap[X]? = some (.cells #[v1, v2, v3, .int .i64 0] 30) := by
  have hx := h.xN
  exact (hg.block X (Array.getElem?_eq_some_iff.1 h.bx).1 (fun e => by have := (h.r2.lt X e.symm).1; omega)).trans h.bx
theorem TR.app2 (h : TR X N C b1 b3 w1 W v1 v2 v3 L S M n s qs) {c : SenR} {gg cap : Nat} (ho : W'.ownsRow N 66 3 (.slice (some ⟨gg, 0, none⟩) (S ++ [c]).length cap) (S ++ [c]).length (clSes (S ++ [c]))) (hg : W.grownBy W' v2.ownBlock) :
    TR X N C b1 b3 w1 (W'.setCell ⟨X, 1, none⟩ (.slice (some ⟨gg, 0, none⟩) (S ++ [c]).length cap)) v1 (.slice (some ⟨gg, 0, none⟩) (S ++ [c]).length cap) v3 L (S ++ [c]) M n s qs := by
  have hx := h.xN
  have hs := h.sz
  have hle := h.le
  have hrow : ∀ g, v2.ownBlock = some g → N ≤ g := fun g e => (h.r2.lt g e).1
  have bx := h.grown hg
  have kp : Keep X w1 W' := ⟨hg.os.trans h.kp.os, hg.tape.trans h.kp.tape, hg.output.trans h.kp.output, Nat.le_trans h.kp.size hg.size, fun k hk hne => (hg.block k (by omega) (fun e => by have := hrow k e.symm; omega)).trans (h.kp.block k hk hne)⟩
  obtain ⟨r, hr⟩ := h.ch
  have key : ∀ (b : Nat) (xs : Array Value), W.heap[b]? = some (.cells xs 25) → W'.heap[b]? = W.heap[b]? := fun b xs hb => hg.block b (Array.getElem?_eq_some_iff.1 hb).1 (fun e => own_apart h.r2 hb (by decide) e.symm)
  have hC : W'.heap[C]? = W.heap[C]? := hg.block C (Array.getElem?_eq_some_iff.1 hr).1 (fun e => by
    rcases h.r2.2 with ⟨e1, _⟩ | ⟨g', cap, cur, e1, _, h2, _⟩
    · rw [e1] at e; cases e
    · rw [e1] at e
      simp only [Value.ownBlock, Option.some.injEq] at e
      subst e
      rw [hr] at h2
      cases h2)
  have hCn := h.nC
  have n1 := h.n1
  have n3 := h.n3
  refine ⟨kp.setCell _ _, h.sz, h.xN, by simp [World.setCell, Array.getElem?_modify, bx], (h.l1.of_block fun hn => ?_).of_block fun _ => set_other _ _ _ _ _ (by omega), own_setX ho h.xN, (h.l3.of_block fun hn => ?_).of_block fun _ => set_other _ _ _ _ _ (by omega), h.n1, h.n3, h.ne, h.nC, ⟨r, (set_other _ _ _ _ _ (by omega)).trans (hC.trans hr)⟩⟩
  · obtain ⟨xs, hx⟩ := h.l1.blk hn
    exact key b1 xs hx
  · obtain ⟨xs, hx⟩ := h.l3.blk hn
    exact key b3 xs hx
theorem TR.write {cap : Nat} (h : TR X N C b1 b3 w1 W (.slice (some ⟨b1, 0, none⟩) L.length cap) v2 v3 L S M n s qs) {p : Nat} (hp : p < L.length) (c : OutR) (hz : c.partner.size ≤ 9223372036854775807 ∧ c.text.size ≤ 9223372036854775807) : TR X N C b1 b3 w1 (((((W.setCell ⟨b1, p * 5, none⟩ (.string c.partner)).setCell ⟨b1, p * 5 + 1, none⟩ (.int .i64 c.number)).setCell ⟨b1, p * 5 + 2, none⟩ (.string c.text)).setCell ⟨b1, p * 5 + 3, none⟩ (.int .i64 c.tries)).setCell ⟨b1, p * 5 + 4, none⟩ (.int .i64 c.due)) (.slice (some ⟨b1, 0, none⟩) L.length cap) v2 v3 (L.set p c) S M n s qs := by
  have hne : L ≠ [] := fun e => by rw [e] at hp; simp at hp
  have hx := h.xN
  have hs := h.sz
  have n1 := h.n1
  obtain ⟨xs, hb⟩ := h.l1.blk hne
  obtain ⟨r, hr⟩ := h.ch
  have hCb : C ≠ b1 := fun e => by rw [← e, hr] at hb; cases hb
  refine ⟨(((((h.kp.setNew b1 _ (by omega) _).setNew b1 _ (by omega) _).setNew b1 _ (by omega) _).setNew b1 _ (by omega) _).setNew b1 _ (by omega) _), h.sz, h.xN, (set5_other _ _ _ _ _ (by omega)).trans h.bx, h.l1.write hp c hz, own_block h.r2 fun g hg => set5_other _ _ _ _ _ (fun e => own_apart h.r2 hb (by decide) (e ▸ hg)), h.l3.of_block fun hn => set5_other _ _ _ _ _ (fun e => h.ne hne hn e.symm), h.n1, h.n3, fun h1 h3 => h.ne hne h3, h.nC, ⟨r, (set5_other _ _ _ _ _ hCb).trans hr⟩⟩
theorem TR.write2 {cap m : Nat} (h : TR X N C b1 b3 w1 W (.slice (some ⟨b1, 0, none⟩) m cap) v2 v3 L S M n s qs) (hm : L.length = m) {p : Nat} (hp : p < L.length) (c : OutR) (hz : c.partner.size ≤ 9223372036854775807 ∧ c.text.size ≤ 9223372036854775807) : TR X N C b1 b3 w1 (((((W.setCell ⟨b1, p * 5, none⟩ (.string c.partner)).setCell ⟨b1, p * 5 + 1, none⟩ (.int .i64 c.number)).setCell ⟨b1, p * 5 + 2, none⟩ (.string c.text)).setCell ⟨b1, p * 5 + 3, none⟩ (.int .i64 c.tries)).setCell ⟨b1, p * 5 + 4, none⟩ (.int .i64 c.due)) (.slice (some ⟨b1, 0, none⟩) m cap) v2 v3 (L.set p c) S M n s qs := by
  subst hm
  exact h.write hp c hz
end
end Go.Proofs.Ytiakkpglnijapaa
