/- Contract of impl's Row.take: how many segments at the beginning of a list are the row's. -/
import Derived.Test.YtphgheojfnlgjaaDoorTcP
import Derived.Test.YtphgheojfnlgjaaDoorFormI
namespace Go.Proofs.YtphgheojfnlgjaaDoor
open Go.ChangeShapes Go.WideShapes Go.ChangeAt Go.RowKit
set_option maxHeartbeats 4000000 in
theorem take_any (r : TRow) (v : Value) (gs : List Seg) (w : World) (h : RowG w v gs) (hG : BdG 1048576 gs) (hl : gs.length ≤ 400) (hf : r.form.length ≤ 1048576) (hE : ErrsAt w) :
    Calls Tryd.prog 18 #[.agg #[.string (bs r.tag), .int .i64 r.least, .int .i64 r.most, .string (bs r.form)], v] w fun e w' => e = .returned (.tuple #[.int .i64 ((tk r gs 0).1 : Int), .int .i64 (tk r gs 0).2]) ∧ Below w.heap.size w w' := by
  obtain ⟨a, cap, rfl⟩ := h.val
  have b0 : Below w.heap.size w (w.alloc (.cells #[.string (bs r.tag), .int .i64 r.least, .int .i64 r.most, .string (bs r.form)] 33)) := (Below.refl _ _).alloc (Nat.le_refl _) _
  have H : Hid (RowG (w.alloc (.cells #[.string (bs r.tag), .int .i64 r.least, .int .i64 r.most, .string (bs r.form)] 33)) (.slice a gs.length cap) gs ∧ ErrsAt (w.alloc (.cells #[.string (bs r.tag), .int .i64 r.least, .int .i64 r.most, .string (bs r.form)] 33)) ∧ BdG 1048576 gs) := ⟨h.below b0, hE.below b0, hG⟩
  clear h hE hG
  have hfz : (bs r.form).size ≤ 1048576 := hf
  generalize hP : tk r gs 0 = P
  have HP : Hid (tk r gs 0 = P) := hP
  clear hP
  go_enter Tryd.func18, Tryd.ntmps18
  go_wp2_with fail
  go_loopw [6, 12] (fun cv i wr => ∃ k : Nat, cv = .int .i64 (k : Int) ∧ i = .int .i64 (k : Int) ∧ k ≤ gs.length ∧ tk r (gs.drop k) k = P ∧ Below (w.heap.size + 1) (w.alloc (.cells #[.string (bs r.tag), .int .i64 r.least, .int .i64 r.most, .string (bs r.form)] 33)) wr) (fun _ i _ => gs.length - (intOf i).toNat)
  case atStart => exact ⟨0, rfl, rfl, by omega, HP.out, Below.refl _ _⟩
  case round =>
    obtain ⟨k, rfl, rfl, hk, htk, hb⟩ := hrel
    have HT : Hid (tk r (gs.drop k) k = P) := htk
    have hwz : w.heap.size + 1 ≤ wr.heap.size := by have := hb.size; simpa using this
    have hb' : Below (w.alloc (.cells #[.string (bs r.tag), .int .i64 r.least, .int .i64 r.most, .string (bs r.form)] 33)).heap.size (w.alloc (.cells #[.string (bs r.tag), .int .i64 r.least, .int .i64 r.most, .string (bs r.form)] 33)) wr := hb.mono (Nat.le_of_eq (World.size_alloc ..))
    have HB : Hid (Below w.heap.size w wr ∧ Below (w.heap.size + 1) (w.alloc (.cells #[.string (bs r.tag), .int .i64 r.least, .int .i64 r.most, .string (bs r.form)] 33)) wr) := ⟨b0.trans (hb.mono (by omega)), hb⟩
    have r0 : wr.cell? ⟨w.heap.size, 0, none⟩ = some (.string (bs r.tag)) := (hb.cell (p := ⟨w.heap.size, 0, none⟩) (by simp)).trans (by simp [go_sem])
    have r2 : wr.cell? ⟨w.heap.size, 2, none⟩ = some (.int .i64 r.most) := (hb.cell (p := ⟨w.heap.size, 2, none⟩) (by simp)).trans (by simp [go_sem])
    have r3 : wr.cell? ⟨w.heap.size, 3, none⟩ = some (.string (bs r.form)) := (hb.cell (p := ⟨w.heap.size, 3, none⟩) (by simp)).trans (by simp [go_sem])
    have Hr : Hid (RowG wr (.slice a gs.length cap) gs ∧ ErrsAt wr) := ⟨H.out.1.below hb', H.out.2.1.below hb'⟩
    clear htk hb hb'
    by_cases hlt : k < gs.length
    · have hlt' : (k : Int) < (gs.length : Int) := by omega
      obtain ⟨b, o, c1, g, u, hv, hg, hc, hc2, hu, hgz⟩ := Hr.out.1.at hlt
      simp only [Value.slice.injEq, true_and] at hv
      obtain ⟨rfl, rfl⟩ := hv
      have hEg := (H.out.2.2.2 k g hg).2
      have hdrop : gs.drop k = g :: gs.drop (k + 1) := by
        rw [List.drop_eq_getElem_cons hlt]
        rw [List.getElem?_eq_getElem hlt, Option.some.injEq] at hg
        rw [hg]
      have Hd : Hid (tk r (g :: gs.drop (k + 1)) k = P) := by rw [← hdrop]; exact HT.out
      obtain ⟨ua, uc, rfl⟩ := hu.val
      have bA : Below wr.heap.size wr (wr.alloc (.cells #[.string g.1, .slice ua g.2.length uc] 36)) := (Below.refl _ _).alloc (Nat.le_refl _) _
      have hu2 := hu.below bA
      have hE2 := Hr.out.2.below bA
      have s0 : (wr.alloc (.cells #[.string g.1, .slice ua g.2.length uc] 36)).cell? ⟨w.heap.size, 0, none⟩ = some (.string (bs r.tag)) := (bA.cell (cell_lt r0)).trans r0
      have s2 : (wr.alloc (.cells #[.string g.1, .slice ua g.2.length uc] 36)).cell? ⟨w.heap.size, 2, none⟩ = some (.int .i64 r.most) := (bA.cell (cell_lt r2)).trans r2
      have s3 : (wr.alloc (.cells #[.string g.1, .slice ua g.2.length uc] 36)).cell? ⟨w.heap.size, 3, none⟩ = some (.string (bs r.form)) := (bA.cell (cell_lt r3)).trans r3
      have n0 : (wr.alloc (.cells #[.string g.1, .slice ua g.2.length uc] 36)).cell? ⟨wr.heap.size, 0, none⟩ = some (.string g.1) := by simp [go_sem]
      have n1 : (wr.alloc (.cells #[.string g.1, .slice ua g.2.length uc] 36)).cell? ⟨wr.heap.size, 1, none⟩ = some (.slice ua g.2.length uc) := by simp [go_sem]
      have HW : Hid (Below w.heap.size w (wr.alloc (.cells #[.string g.1, .slice ua g.2.length uc] 36))) := HB.out.1.trans (bA.mono HB.out.1.size)
      clear hg hdrop r0 r2 r3
      by_cases hm : (k : Int) = r.most
      · have hm' : ((k : Int) == r.most) = true := by simpa using hm
        have HPk : Hid (P = (k, -1)) := by show _ = _; rw [← Hd.out, tk, if_pos (.inl hm)]
        clear hm
        go_wp2
        go_ret2
        exact ⟨by rw [HPk.out]; rfl, HW.out⟩
      · have hm' : ((k : Int) == r.most) = false := by simpa using hm
        by_cases ht : g.1 = bs r.tag
        · have ht' : (g.1.toList == (bs r.tag).toList) = true := by rw [ht]; simp
          have Ht : Hid (g.1 = bs r.tag) := ht
          have Hm : Hid (¬ (k : Int) = r.most) := hm
          clear ht hm
          go_wp2_with fail
          refine (formRight_impl (bs r.form) g.1 _ g.2 _ hfz hu2 hEg hE2).mono ?_
          rintro e w3 ⟨fr, rfl, hfr, hb3⟩
          have Hf : Hid (fr = frV (bs r.form) g.2) := frV_is hfr
          have HW3 : Hid (Below w.heap.size w w3 ∧ Below (w.heap.size + 1) (w.alloc (.cells #[.string (bs r.tag), .int .i64 r.least, .int .i64 r.most, .string (bs r.form)] 33)) w3) :=
            ⟨HW.out.trans (hb3.mono HW.out.size), (HB.out.2.trans (bA.mono hwz)).trans (hb3.mono (Nat.le_trans hwz (by simp)))⟩
          clear hfr hb3 bA hu2 hE2
          by_cases hp : 0 ≤ fr
          · have HPk : Hid (P = (k, fr)) := by show _ = _; rw [← Hd.out, tk, if_neg (by rintro (x | x); exact Hm.out x; exact x Ht.out), if_pos (by rw [← Hf.out]; exact hp), ← Hf.out]
            go_wp2
            go_ret2
            exact ⟨by rw [HPk.out]; rfl, HW3.out.1⟩
          · have hp' : fr < 0 := by omega
            have HPk : Hid (tk r (gs.drop (k + 1)) (k + 1) = P) := by show _ = _; rw [← Hd.out]; conv => rhs; rw [tk, if_neg (by rintro (x | x); exact Hm.out x; exact x Ht.out), if_neg (by rw [← Hf.out]; exact hp)]
            go_wp2
            go_roundw
            case rel => exact ⟨k + 1, by go_num, by go_num, by omega, HPk.out, HW3.out.2⟩
            case measure => simp [intOf]; omega
        · have ht' : (g.1.toList == (bs r.tag).toList) = false := by
            rw [beq_eq_false_iff_ne]
            intro e
            apply ht
            rw [Lib.toList_data, Lib.toList_data] at e
            exact ByteArray.ext (Array.toList_inj.1 e)
          have HPk : Hid (P = (k, -1)) := by show _ = _; rw [← Hd.out, tk, if_pos (.inr ht)]
          clear ht
          go_wp2
          go_ret2
          exact ⟨by rw [HPk.out]; rfl, HW.out⟩
    · obtain rfl : k = gs.length := by omega
      have HPk : Hid (P = (gs.length, -1)) := by show _ = _; rw [← HT.out, List.drop_length, tk]
      clear hlt
      go_wp2
      go_ret2
      exact ⟨by rw [HPk.out]; rfl, HB.out.1⟩
end Go.Proofs.YtphgheojfnlgjaaDoor
