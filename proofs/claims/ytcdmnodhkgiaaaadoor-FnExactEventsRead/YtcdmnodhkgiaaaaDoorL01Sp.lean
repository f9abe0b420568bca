/- Contract of the model's l01Split. -/
import Derived.Test.YtcdmnodhkgiaaaaDoorPcP
import Derived.Test.YtcdmnodhkgiaaaaDoorAppTx
namespace Go.Proofs.YtcdmnodhkgiaaaaDoor
open Go.ChangeShapes Go.WideShapes Go.ChangeAt Go.RowKit
set_option maxRecDepth 100000 in
set_option maxHeartbeats 4000000 in
theorem l01Split_any (t : ByteArray) (c : UInt8) (ht : t.size ≤ 1048576) (w : World) : Calls Tryd.prog 25 #[.string t, .int .u8 c.toNat] w fun e w' => ∃ A C, e = .returned (.slice A (pcB c t).length C) ∧ w'.ownsRow w.heap.size 9 1 (.slice A (pcB c t).length C) (pcB c t).length ((pcB c t).map Value.string) ∧ Below w.heap.size w w' := by
  obtain ⟨W0, hW0⟩ : ∃ W0, w.alloc (.cells #[] 9) = W0 := ⟨_, rfl⟩
  have hb0 : Below w.heap.size w W0 := by rw [← hW0]; exact (Below.refl _ _).alloc (Nat.le_refl _) _
  have ho0 : W0.ownsRow w.heap.size 9 1 (.slice (some ⟨w.heap.size, 0, none⟩) 0 0) 0 [] := by rw [← hW0]; exact own0Tx w (Nat.le_refl _)
  have H0 : Hid (W0.ownsRow w.heap.size 9 1 (.slice (some ⟨w.heap.size, 0, none⟩) 0 0) 0 [] ∧ Below w.heap.size w W0) := ⟨ho0, hb0⟩
  clear ho0 hb0
  go_enter Tryd.func25, Tryd.ntmps25
  go_wp2_with fail
  try rw [hW0]
  clear hW0
  go_loopw [5, 6, 7] (fun lv bv iv wr => ∃ (k b : Nat) (A : Option Addr) (C : Nat) (ls : List ByteArray), iv = .int .i64 (k : Int) ∧ bv = .int .i64 (b : Int) ∧ lv = .slice A ls.length C ∧ b ≤ k ∧ k ≤ t.size ∧ ls.length ≤ k ∧ PcAt c t b k ls ∧ wr.ownsRow w.heap.size 9 1 (.slice A ls.length C) ls.length (ls.map Value.string) ∧ Below w.heap.size w wr) (fun _ _ iv _ => t.size - (intOf iv).toNat)
  case atStart => exact ⟨0, 0, _, _, [], rfl, rfl, rfl, by omega, by omega, by simp, PcAt.start _ _, H0.out⟩
  case round =>
    obtain ⟨k, b, A, C, ls, rfl, rfl, rfl, hbk, hks, hlk, hP, hO, hb⟩ := hrel
    have HP : Hid (PcAt c t b k ls) := hP
    have HI : Hid (wr.ownsRow w.heap.size 9 1 (.slice A ls.length C) ls.length (ls.map Value.string) ∧ Below w.heap.size w wr) := ⟨hO, hb⟩
    clear hP hO hb
    by_cases hlt : k < t.size
    · have hlt' : (k : Int) < (t.size : Int) := by omega
      by_cases hc : t[k]'hlt = c
      · have hq : (((t[k]'hlt).toNat : Int) == (c.toNat : Int)) = true := by rw [hc]; simp
        have HN : Hid (PcAt c t (k + 1) (k + 1) (ls ++ [t.extract b k])) := HP.out.hit hlt hc
        have ha : Below wr.heap.size wr (wr.alloc (.cells #[.string (t.extract b k)] 9)) := (Below.refl _ _).alloc (Nat.le_refl _) _
        have hrow5 := ownTx_below HI.out.1 ha
        have b5 : Below w.heap.size w (wr.alloc (.cells #[.string (t.extract b k)] 9)) := HI.out.2.trans (ha.mono HI.out.2.size)
        have hc5 : (wr.alloc (.cells #[.string (t.extract b k)] 9)).cell? ⟨wr.heap.size, 0, none⟩ = some (.string (t.extract b k)) := by simp [go_sem]
        obtain ⟨X, hX⟩ : ∃ X, wr.alloc (.cells #[.string (t.extract b k)] 9) = X := ⟨_, rfl⟩
        rw [hX] at hrow5 b5 hc5
        have hs5 : w.heap.size ≤ X.heap.size := b5.size
        have hl5 : ls.length + 1 ≤ 2000000 := by omega
        have HB5 : Hid (Below w.heap.size w X) := b5
        have h1 : (b : Int) ≤ (k : Int) := by omega
        have h2 : (k : Int) ≤ (t.size : Int) := by omega
        clear hc ha b5
        go_wp2_with (at_builtin; (try rw [hX]); refine wpList_appTx (base := w.heap.size) (c := wr.heap.size) (C := 1) (lv := .slice A ls.length C) (ss := ls) (t := t.extract b k) rfl (.tmp 20) (.tmp 25) rfl rfl rfl hrow5 hc5 hl5 hs5 ?_; rintro v6 w6 hown6 hgrow6 ⟨A6, C6, rfl⟩; have H6 : Hid (w6.ownsRow w.heap.size 9 1 (.slice A6 (ls.length + 1) C6) (ls.length + 1) ((ls ++ [t.extract b k]).map Value.string) ∧ Below w.heap.size w w6) := ⟨hown6, appTx_below HB5.out hrow5 hgrow6 hs5⟩; clear hown6 hgrow6)
        have hx : (ls ++ [t.extract b k]).length = ls.length + 1 := by simp
        go_roundw
        case rel => exact ⟨k + 1, k + 1, A6, C6, ls ++ [t.extract b k], by go_num, by go_num, by rw [hx], by omega, by omega, by omega, HN.out, by rw [hx]; exact H6.out⟩
        case measure => simp [intOf]; omega
      · have hq : (((t[k]'hlt).toNat : Int) == (c.toNat : Int)) = false := by
          rw [beq_eq_false_iff_ne]
          intro e
          exact hc (UInt8.toNat_inj.1 (by omega))
        have HN : Hid (PcAt c t b (k + 1) ls) := HP.out.over 1 hlt fun j hj h1 h2 => by
          obtain rfl : j = k := by omega
          exact hc
        clear hc
        go_wp2
        go_roundw
        case rel => exact ⟨k + 1, b, A, C, ls, by go_num, rfl, rfl, by omega, by omega, by omega, HN.out, HI.out⟩
        case measure => simp [intOf]; omega
    · obtain rfl : k = t.size := by omega
      have HE : Hid (pcB c t = ls ++ [t.extract b t.size]) := HP.out.fin
      have ha : Below wr.heap.size wr (wr.alloc (.cells #[.string (t.extract b t.size)] 9)) := (Below.refl _ _).alloc (Nat.le_refl _) _
      have hrow5 := ownTx_below HI.out.1 ha
      have b5 : Below w.heap.size w (wr.alloc (.cells #[.string (t.extract b t.size)] 9)) := HI.out.2.trans (ha.mono HI.out.2.size)
      have hc5 : (wr.alloc (.cells #[.string (t.extract b t.size)] 9)).cell? ⟨wr.heap.size, 0, none⟩ = some (.string (t.extract b t.size)) := by simp [go_sem]
      obtain ⟨X, hX⟩ : ∃ X, wr.alloc (.cells #[.string (t.extract b t.size)] 9) = X := ⟨_, rfl⟩
      rw [hX] at hrow5 b5 hc5
      have hs5 : w.heap.size ≤ X.heap.size := b5.size
      have hl5 : ls.length + 1 ≤ 2000000 := by omega
      have HB5 : Hid (Below w.heap.size w X) := b5
      have h1 : (b : Int) ≤ (t.size : Int) := by omega
      clear ha b5
      go_wp2_with (at_builtin; (try rw [hX]); refine wpList_appTx (base := w.heap.size) (c := wr.heap.size) (C := 1) (lv := .slice A ls.length C) (ss := ls) (t := t.extract b t.size) rfl (.tmp 29) (.tmp 33) rfl rfl rfl hrow5 hc5 hl5 hs5 ?_; rintro v6 w6 hown6 hgrow6 ⟨A6, C6, rfl⟩; have H6 : Hid (w6.ownsRow w.heap.size 9 1 (.slice A6 (ls.length + 1) C6) (ls.length + 1) ((ls ++ [t.extract b t.size]).map Value.string) ∧ Below w.heap.size w w6) := ⟨hown6, appTx_below HB5.out hrow5 hgrow6 hs5⟩; clear hown6 hgrow6)
      have hx : (ls ++ [t.extract b t.size]).length = ls.length + 1 := by simp
      refine bodyPost_ret (v := .slice A6 (ls.length + 1) C6) (by simp [results, Tryd.results25, go_sem]; try rfl) rfl ?_
      exact ⟨A6, C6, by rw [HE.out, hx], by rw [HE.out, hx]; exact H6.out.1, H6.out.2⟩
end Go.Proofs.YtcdmnodhkgiaaaaDoor
