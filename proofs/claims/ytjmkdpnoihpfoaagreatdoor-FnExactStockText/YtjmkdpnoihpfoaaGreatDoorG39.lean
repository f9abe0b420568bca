/- Texts of ours put together: BoSm. -/
import Derived.Test.YtjmkdpnoihpfoaaGreatDoorG38
namespace Go.Proofs.YtjmkdpnoihpfoaaGreatDoor
open Go.ChangeShapes Go.WideShapes Go.ChangeAt Go.RowKit
theorem right_all {rs : List OLn} (h : RightL rs) (k : Nat) (l : OLn) (hk : rs[k]? = some l) : LnOk l := (h.at_ k l hk).ok
set_option maxHeartbeats 4000000 in
theorem sumOpen_any (v : Value) (rs : List OLn) (w : World) (h : RowOl w v rs) (hl : rs.length ≤ 200) (hok : ∀ l ∈ rs, LnOk l) : Calls Tryz.prog 40 #[v, .func (.func 41) #[] #[]] w fun e w' => e = .returned (.int .i64 (sumL opnT rs)) ∧ Below w.heap.size w w' := by
  have hlen := h.len
  obtain ⟨A, C, rfl⟩ := h.val
  have H0 : Hid (RowOl w (.slice A rs.length C) rs ∧ ∀ l ∈ rs, LnOk l) := ⟨h, hok⟩
  clear h hok
  go_enter Tryz.func40, Tryz.ntmps40
  go_wp2_with fail
  go_loopw [5, 10] (fun z ix wr => ∃ (k : Nat) (s : Int), ix = .int .i64 (k : Int) ∧ z = .int .i64 s ∧ k ≤ rs.length ∧ 0 ≤ s ∧ s ≤ 1000000 * (k : Int) ∧ s = sumL opnT (rs.take k) ∧ Below w.heap.size w wr) (fun _ ix _ => rs.length - (intOf ix).toNat)
  case atStart => exact ⟨0, 0, rfl, rfl, by omega, by omega, by omega, by simp [sumL], Below.refl _ _⟩
  case round =>
    obtain ⟨k, s, rfl, rfl, hk, hs0, hs1, hse, hb⟩ := hrel
    have HE : Hid (s = sumL opnT (rs.take k) ∧ Below w.heap.size w wr) := ⟨hse, hb⟩
    clear hse
    by_cases hlt : k < rs.length
    · have hlt' : (k : Int) < (rs.length : Int) := by omega
      obtain ⟨b, o, cap', l, e, hs, hat, hz⟩ := (H0.out.1.below hb).at hlt
      simp only [Value.slice.injEq, true_and] at e
      obtain ⟨rfl, rfl⟩ := e
      have HS : Hid (rs[k]? = some l) := hs
      have hok := H0.out.2 l (List.mem_of_getElem? hs)
      obtain ⟨q0, q1, q2, q3, q4, q5, q6, q7⟩ := hat
      have Q1 := open_any l hok
      rw [← opnT_yes hok] at Q1
      obtain ⟨f, hf⟩ : ∃ f, f = opnT l := ⟨_, rfl⟩
      have hfb := opnT_bound l
      rw [← hf] at Q1 hfb
      obtain ⟨hf0, hf1⟩ := hfb
      have HF : Hid (f = opnT l) := hf
      clear hs hz hok hf hb
      have hbx : Below w.heap.size w (wr.alloc (.cells #[.string l.partner, .string l.ref, .int .i64 l.no, .string l.item, .int .i64 l.ordered, .int .i64 l.sent, .int .i64 l.got, .int .i64 l.cut] 61)) := HE.out.2.alloc HE.out.2.size _
      have HB : Hid (Below w.heap.size w (wr.alloc (.cells #[.string l.partner, .string l.ref, .int .i64 l.no, .string l.item, .int .i64 l.ordered, .int .i64 l.sent, .int .i64 l.got, .int .i64 l.cut] 61))) := hbx
      clear hbx
      go_wp2_with fail
      refine (Q1 _).mono ?_
      rintro e w2 ⟨rfl, hb2⟩
      have H2 : Hid (Below w.heap.size w w2) := HB.out.trans (hb2.mono HB.out.size)
      clear hb2 Q1
      go_wp2
      go_roundw
      case rel =>
        refine ⟨k + 1, s + f, by go_num, by go_num, by omega, by omega, by omega, ?_, H2.out⟩
        rw [List.take_add_one, HS.out, sumL_app, HE.out.1, HF.out]
        simp [sumL]
      case measure => simp [intOf]; omega
    · obtain rfl : k = rs.length := by omega
      have HS : Hid (s = sumL opnT rs) := by have := HE.out.1; rw [List.take_length] at this; exact this
      clear hb
      go_wp2
      go_ret
      exact ⟨by rw [← HS.out]; rfl, HE.out.2⟩
set_option maxHeartbeats 4000000 in
theorem sumTransit_any (v : Value) (rs : List OLn) (w : World) (h : RowOl w v rs) (hl : rs.length ≤ 200) (hok : ∀ l ∈ rs, LnOk l) : Calls Tryz.prog 40 #[v, .func (.func 42) #[] #[]] w fun e w' => e = .returned (.int .i64 (sumL trnT rs)) ∧ Below w.heap.size w w' := by
  have hlen := h.len
  obtain ⟨A, C, rfl⟩ := h.val
  have H0 : Hid (RowOl w (.slice A rs.length C) rs ∧ ∀ l ∈ rs, LnOk l) := ⟨h, hok⟩
  clear h hok
  go_enter Tryz.func40, Tryz.ntmps40
  go_wp2_with fail
  go_loopw [5, 10] (fun z ix wr => ∃ (k : Nat) (s : Int), ix = .int .i64 (k : Int) ∧ z = .int .i64 s ∧ k ≤ rs.length ∧ 0 ≤ s ∧ s ≤ 1000000 * (k : Int) ∧ s = sumL trnT (rs.take k) ∧ Below w.heap.size w wr) (fun _ ix _ => rs.length - (intOf ix).toNat)
  case atStart => exact ⟨0, 0, rfl, rfl, by omega, by omega, by omega, by simp [sumL], Below.refl _ _⟩
  case round =>
    obtain ⟨k, s, rfl, rfl, hk, hs0, hs1, hse, hb⟩ := hrel
    have HE : Hid (s = sumL trnT (rs.take k) ∧ Below w.heap.size w wr) := ⟨hse, hb⟩
    clear hse
    by_cases hlt : k < rs.length
    · have hlt' : (k : Int) < (rs.length : Int) := by omega
      obtain ⟨b, o, cap', l, e, hs, hat, hz⟩ := (H0.out.1.below hb).at hlt
      simp only [Value.slice.injEq, true_and] at e
      obtain ⟨rfl, rfl⟩ := e
      have HS : Hid (rs[k]? = some l) := hs
      have hok := H0.out.2 l (List.mem_of_getElem? hs)
      obtain ⟨q0, q1, q2, q3, q4, q5, q6, q7⟩ := hat
      have Q1 := transit_any l hok
      rw [← trnT_yes hok] at Q1
      obtain ⟨f, hf⟩ : ∃ f, f = trnT l := ⟨_, rfl⟩
      have hfb := trnT_bound l
      rw [← hf] at Q1 hfb
      obtain ⟨hf0, hf1⟩ := hfb
      have HF : Hid (f = trnT l) := hf
      clear hs hz hok hf hb
      have hbx : Below w.heap.size w (wr.alloc (.cells #[.string l.partner, .string l.ref, .int .i64 l.no, .string l.item, .int .i64 l.ordered, .int .i64 l.sent, .int .i64 l.got, .int .i64 l.cut] 61)) := HE.out.2.alloc HE.out.2.size _
      have HB : Hid (Below w.heap.size w (wr.alloc (.cells #[.string l.partner, .string l.ref, .int .i64 l.no, .string l.item, .int .i64 l.ordered, .int .i64 l.sent, .int .i64 l.got, .int .i64 l.cut] 61))) := hbx
      clear hbx
      go_wp2_with fail
      refine (Q1 _).mono ?_
      rintro e w2 ⟨rfl, hb2⟩
      have H2 : Hid (Below w.heap.size w w2) := HB.out.trans (hb2.mono HB.out.size)
      clear hb2 Q1
      go_wp2
      go_roundw
      case rel =>
        refine ⟨k + 1, s + f, by go_num, by go_num, by omega, by omega, by omega, ?_, H2.out⟩
        rw [List.take_add_one, HS.out, sumL_app, HE.out.1, HF.out]
        simp [sumL]
      case measure => simp [intOf]; omega
    · obtain rfl : k = rs.length := by omega
      have HS : Hid (s = sumL trnT rs) := by have := HE.out.1; rw [List.take_length] at this; exact this
      clear hb
      go_wp2
      go_ret
      exact ⟨by rw [← HS.out]; rfl, HE.out.2⟩
end Go.Proofs.YtjmkdpnoihpfoaaGreatDoor
