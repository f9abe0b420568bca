/- Contract of the model's DrawOutboxPut. -/
import Derived.Test.YtiakkpglnijapaaOuDb
import Derived.Test.YtiakkpglnijapaaSrcNew
namespace Go.Proofs.Ytiakkpglnijapaa
open Go.ChangeShapes Go.WideShapes Go.ChangeAt Go.RowKit
theorem bytesAt_belowN {w w' : World} {a : Option Addr} {len : Nat} {zs : List Int} (h : BytesAt w a len zs) (hb : Below w.heap.size w w') : BytesAt w' a len zs := by
  intro g
  obtain ⟨b, off, e, hc⟩ := h g
  exact ⟨b, off, e, fun i hi => (hb.cell (p := ⟨b, off + i, none⟩) (cell_lt (hc i hi))).trans (hc i hi)⟩
set_option maxRecDepth 100000 in
set_option maxHeartbeats 4000000 in
theorem drawOutboxPut_any (a : Option Addr) (len cap : Nat) (zs : List Int) (w : World) (hl : len ≤ 1048576) (hr : BytesAt w a len zs) :
    Calls Try.prog 5 #[.slice a len cap] w fun e w' => ∃ (ad : Option Addr) (C : Nat) (rs : List OutR) (l : OutR), e = .returned (.tuple #[.slice ad rs.length C, .agg #[.string l.partner, .int .i64 l.number, .string l.text, .int .i64 l.tries, .int .i64 l.due]]) ∧ RowOu w' (.slice ad rs.length C) rs ∧ (∀ g ∈ rs, SmO g) ∧ rs.length ≤ 62 ∧ SmO l ∧ Below w.heap.size w w' := by
  obtain ⟨W0, hW0⟩ : ∃ W0, w.alloc (.cells #[.string ⟨#[]⟩, .int .i64 0, .string ⟨#[]⟩, .int .i64 0, .int .i64 0] 25) = W0 := ⟨_, rfl⟩
  have hb0 : Below w.heap.size w W0 := by rw [← hW0]; exact (Below.refl _ _).alloc (Nat.le_refl _) _
  have hr0 : W0.heap[w.heap.size]? = some (.cells #[.string ⟨#[]⟩, .int .i64 0, .string ⟨#[]⟩, .int .i64 0, .int .i64 0] 25) := by rw [← hW0]; exact World.alloc_heap_new _ _
  have hs0 : w.heap.size < W0.heap.size := (Array.getElem?_eq_some_iff.1 hr0).1
  have HR : Hid (BytesAt W0 a len zs ∧ Below w.heap.size w W0 ∧ W0.heap[w.heap.size]? = some (.cells #[.string ⟨#[]⟩, .int .i64 0, .string ⟨#[]⟩, .int .i64 0, .int .i64 0] 25)) := ⟨bytesAt_belowN hr hb0, hb0, hr0⟩
  clear hr hb0 hr0
  go_enter Try.func5, Try.ntmps5
  go_upto_region 1 with fail
  try rw [hW0]
  clear hW0
  go_wp2_with fail
  refine (source_any a len cap zs _ hl HR.out.1).mono ?_
  rintro e w1 ⟨rfl, hs1, hb1⟩
  obtain ⟨B, hB⟩ : ∃ B, B = W0.heap.size := ⟨_, rfl⟩
  rw [← hB] at hs1
  have H1 : Hid (IsSrc B w1 ∧ Below w.heap.size w w1 ∧ w1.heap[w.heap.size]? = some (.cells #[.string ⟨#[]⟩, .int .i64 0, .string ⟨#[]⟩, .int .i64 0, .int .i64 0] 25)) := ⟨hs1, HR.out.2.1.trans (hb1.mono HR.out.2.1.size), (hb1.block _ hs0).trans HR.out.2.2⟩
  have hwB : w.heap.size < B := by omega
  have HB : Hid (B = W0.heap.size) := hB
  clear hs1 hb1 HR hB hs0
  go_upto_region 2 with fail
  rw [← HB.out]
  clear HB
  go_wp2_with fail
  refine (l12Outbox_any B _ H1.out.1).mono ?_
  rintro e w2 ⟨v, rs, rfl, hq, hl2⟩
  obtain ⟨ad, C, rfl⟩ := hq.row.val
  have H2 : Hid (QOu B w1 w2 (.slice ad rs.length C) rs) := hq
  clear hq
  go_wp2_with fail
  refine (l12Out_any B _ H2.out.src).mono ?_
  rintro e w3 ⟨l, rfl, hsm, s3, k3⟩
  have h3 := H2.out.keep k3 s3
  have hB1 : B < w1.heap.size := H1.out.1.lt
  have hl1 := H1.out.2.1.size
  have hr3 : w3.heap[w.heap.size]? = some (.cells #[.string ⟨#[]⟩, .int .i64 0, .string ⟨#[]⟩, .int .i64 0, .int .i64 0] 25) := (h3.kp.block _ (Array.getElem?_eq_some_iff.1 H1.out.2.2).1 (by omega)).trans H1.out.2.2
  have hk4 : Keep w.heap.size w3 (((((w3.setCell ⟨w.heap.size, 0, none⟩ (.string l.partner)).setCell ⟨w.heap.size, 1, none⟩ (.int .i64 l.number)).setCell ⟨w.heap.size, 2, none⟩ (.string l.text)).setCell ⟨w.heap.size, 3, none⟩ (.int .i64 l.tries)).setCell ⟨w.heap.size, 4, none⟩ (.int .i64 l.due)) := (((((Keep.refl _ _).setCell _ _).setCell _ _).setCell _ _).setCell _ _).setCell _ _
  have HF : Hid (RowOu (((((w3.setCell ⟨w.heap.size, 0, none⟩ (.string l.partner)).setCell ⟨w.heap.size, 1, none⟩ (.int .i64 l.number)).setCell ⟨w.heap.size, 2, none⟩ (.string l.text)).setCell ⟨w.heap.size, 3, none⟩ (.int .i64 l.tries)).setCell ⟨w.heap.size, 4, none⟩ (.int .i64 l.due)) (.slice ad rs.length C) rs ∧ Below w.heap.size w (((((w3.setCell ⟨w.heap.size, 0, none⟩ (.string l.partner)).setCell ⟨w.heap.size, 1, none⟩ (.int .i64 l.number)).setCell ⟨w.heap.size, 2, none⟩ (.string l.text)).setCell ⟨w.heap.size, 3, none⟩ (.int .i64 l.tries)).setCell ⟨w.heap.size, 4, none⟩ (.int .i64 l.due)) ∧ (((((w3.setCell ⟨w.heap.size, 0, none⟩ (.string l.partner)).setCell ⟨w.heap.size, 1, none⟩ (.int .i64 l.number)).setCell ⟨w.heap.size, 2, none⟩ (.string l.text)).setCell ⟨w.heap.size, 3, none⟩ (.int .i64 l.tries)).setCell ⟨w.heap.size, 4, none⟩ (.int .i64 l.due)).heap[w.heap.size]? = some (.cells #[.string l.partner, .int .i64 l.number, .string l.text, .int .i64 l.tries, .int .i64 l.due] 25)) := by
    have hb3 : Below w.heap.size w w3 := H1.out.2.1.trans (h3.kp.below (by omega) (by omega))
    obtain ⟨b, hb, hL⟩ := h3.lo
    exact ⟨(hL.of_block fun hn => hk4.block b (lou_lt hL hn) (by omega)).row, (((((hb3.setCell (Nat.le_refl _) _).setCell (Nat.le_refl _) _).setCell (Nat.le_refl _) _).setCell (Nat.le_refl _) _).setCell (Nat.le_refl _) _), set5 hr3⟩
  obtain ⟨r0, r1, r2, r3, r4⟩ := box5 hr3
  have hrf : ∀ o, w3.frozen? ⟨w.heap.size, o, none⟩ = false := fun o => by simp [World.frozen?, hr3]
  have HS : Hid ((∀ g ∈ rs, SmO g) ∧ SmO l) := ⟨h3.sm, hsm⟩
  clear h3 hk4 hr3 s3 k3 hsm H2
  go_wp2
  obtain ⟨f0, f1, f2, f3, f4⟩ := box5 HF.out.2.2
  exact bodyPost_ret (v := .tuple #[.slice ad rs.length C, .agg #[.string l.partner, .int .i64 l.number, .string l.text, .int .i64 l.tries, .int .i64 l.due]]) (by simp [results, Try.results5, go_sem, f0, f1, f2, f3, f4]) rfl ⟨ad, C, rs, l, rfl, HF.out.1, HS.out.1, hl2, HS.out.2, HF.out.2.1⟩
end Go.Proofs.Ytiakkpglnijapaa
