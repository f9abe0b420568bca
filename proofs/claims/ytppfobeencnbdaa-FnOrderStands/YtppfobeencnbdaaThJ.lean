/- Contract of the program's linesOfOrder. -/
import Derived.Test.YtppfobeencnbdaaThG
namespace Go.Proofs.Ytppfobeencnbdaa
open Go.ChangeShapes Go.WideShapes Go.ChangeAt Go.RowKit
theorem rowOl_sub {W : World} {b o C C' n m : Nat} {rs : List OLn} (h : RowOl W (.slice (some ⟨b, o, none⟩) rs.length C) rs) (hm : n + m ≤ rs.length) : RowOl W (.slice (some ⟨b, o + n * 8, none⟩) m C') ((rs.drop n).take m) := by
  have hl : ((rs.drop n).take m).length = m := by rw [List.length_take, List.length_drop]; omega
  have hget : ∀ (i : Nat) (g : OLn), ((rs.drop n).take m)[i]? = some g → rs[n + i]? = some g := fun i g hi => by
    have hlt := (List.getElem?_eq_some_iff.1 hi).1
    rw [hl] at hlt
    rw [List.getElem?_take_of_lt hlt, List.getElem?_drop] at hi
    exact hi
  obtain ⟨a, cap, e, hs⟩ := h.shape
  simp only [Value.slice.injEq, true_and] at e
  obtain ⟨rfl, rfl⟩ := e
  refine ⟨⟨_, _, by rw [hl], fun hn => ⟨b, o + n * 8, rfl, fun i g hi => ?_⟩⟩, by rw [hl]; have := h.len; omega, fun i g hi => h.sizes _ g (hget i g hi)⟩
  obtain ⟨b', o', ea, hcell⟩ := hs (fun e => by rw [e] at hn; simp at hn)
  simp only [Option.some.injEq, Addr.mk.injEq, and_true] at ea
  obtain ⟨rfl, rfl⟩ := ea
  have := hcell (n + i) g (hget i g hi)
  rw [show o + (n + i) * 8 = o + n * 8 + i * 8 by omega] at this
  exact this
set_option maxHeartbeats 8000000 in
theorem linesOfOrder_any (A : Option Addr) (C : Nat) (rs : List OLn) (p r : ByteArray) (w : World) (h : RowOl w (.slice A rs.length C) rs) (hC : rs.length ≤ C) (hR : RightL rs) :
    Calls Try.prog 31 #[.slice A rs.length C, .string p, .string r] w fun e w' => ∃ u, e = .returned u ∧ RowOl w' u (rs.filter (ofR p r)) ∧ Below w.heap.size w w' := by
  have hl := hR.len
  have Q := placeOfRef_any A C rs p r w h (by omega) hR.pair
  obtain ⟨fs, hfs⟩ : ∃ fs, fs = rs.filter (ofR p r) := ⟨_, rfl⟩
  rw [← hfs]
  have hf := filter_drop (p := p) (r := r) rs hR.ok hR.pair
  rw [← hfs] at hf
  obtain ⟨n, hn⟩ : ∃ n, n = plcL rs (tgtL p r 0) := ⟨_, rfl⟩
  have hnl : n ≤ rs.length := by rw [hn]; exact List.countP_le_length
  rw [← hn] at Q hf
  clear hn hfs
  obtain ⟨x, hx⟩ : ∃ x, x = (rs[n]?).any (ofR p r) := ⟨_, rfl⟩
  rw [← hx] at Q
  have HF : Hid (fs = (rs.drop n).takeWhile (ofR p r) ∧ x = (rs[n]?).any (ofR p r)) := ⟨hf, hx⟩
  have H0 : Hid (RowOl w (.slice A rs.length C) rs) := h
  clear h hf hx hR
  go_enter Try.func31, Try.ntmps31
  go_wp2_with fail
  refine Q.mono ?_
  rintro e w1 ⟨rfl, hb1⟩
  have H1 : Hid (Below w.heap.size w w1) := hb1
  clear hb1 Q
  cases x with
  | false =>
    have HE : Hid (fs = []) := by
      show fs = []
      rw [HF.out.1]
      have h2 := HF.out.2
      cases e : rs[n]? with
      | none => rw [List.drop_of_length_le (List.getElem?_eq_none_iff.1 e)]; rfl
      | some c =>
        rw [e, Option.any_some] at h2
        obtain ⟨hlt, e⟩ := List.getElem?_eq_some_iff.1 e
        rw [List.drop_eq_getElem_cons hlt, e, List.takeWhile_cons_of_neg (by simp [← h2])]
    go_wp2
    go_ret
    refine ⟨_, rfl, ?_, H1.out⟩
    rw [HE.out]
    exact RowOl.nil _
  | true =>
    have hnlt : n < rs.length := by
      have h2 := HF.out.2
      rcases Nat.lt_or_ge n rs.length with g | g
      · exact g
      · rw [List.getElem?_eq_none g] at h2
        cases h2
    obtain ⟨b, o, cap', c0, e, -, -, -⟩ := H0.out.at hnlt
    simp only [Value.slice.injEq, true_and] at e
    obtain ⟨rfl, rfl⟩ := e
    go_wp2_with fail
    go_loopw [9] (fun i wr => ∃ k : Nat, i = .int .i64 (k : Int) ∧ n ≤ k ∧ k ≤ rs.length ∧ Hid (∀ j x, n ≤ j → j < k → rs[j]? = some x → ofR p r x = true) ∧ wr = w1) (fun i _ => rs.length - (intOf i).toNat)
    case atStart => exact ⟨n, rfl, by omega, by omega, fun j x h1 h2 _ => by omega, rfl⟩
    case round =>
      obtain ⟨k, rfl, hnk, hk, HM, rfl⟩ := hrel
      have fin : (∀ y, rs[k]? = some y → ofR p r y = false) → RowOl wr (.slice (some ⟨b, o + n * 8, none⟩) (k - n) (C - n)) fs := fun hn => by
        have e : fs = (rs.drop n).take (k - n) := by
          rw [HF.out.1]
          refine take_len _ _ _ (fun j y hj hy => ?_) (by rw [List.length_drop]; omega) (fun y hy => ?_)
          · rw [List.getElem?_drop] at hy
            exact HM.out (n + j) y (by omega) (by omega) hy
          · rw [List.getElem?_drop, show n + (k - n) = k by omega] at hy
            exact hn y hy
        rw [e]
        exact rowOl_sub (H0.out.below H1.out) (by omega)
      by_cases hlt : k < rs.length
      · have hlt' : (k : Int) < (rs.length : Int) := by omega
        obtain ⟨b', o', cap', c, e, hsc, ⟨q0, q1, q2, q3, q4, q5, q6, q7⟩, hsz⟩ := (H0.out.below H1.out).at hlt
        simp only [Value.slice.injEq, Option.some.injEq, Addr.mk.injEq, and_true, true_and] at e
        obtain ⟨⟨rfl, rfl⟩, rfl⟩ := e
        have HC : Hid (rs[k]? = some c) := hsc
        clear hsc hsz
        cases e1 : (c.partner.toList == p.toList) with
        | false =>
          have HE := fin fun y hy => by
            have := HC.out
            rw [hy] at this
            cases this
            rw [ofR, e1]; rfl
          have HE : Hid _ := HE
          clear fin
          go_wp2
          go_ret
          exact ⟨_, rfl, HE.out, H1.out⟩
        | true =>
          cases e2 : (c.ref.toList == r.toList) with
          | false =>
            have HE := fin fun y hy => by
              have := HC.out
              rw [hy] at this
              cases this
              rw [ofR, e1, e2]; rfl
            have HE : Hid _ := HE
            clear fin
            go_wp2
            go_ret
            exact ⟨_, rfl, HE.out, H1.out⟩
          | true =>
            have HE : Hid (∀ j x, n ≤ j → j < k + 1 → rs[j]? = some x → ofR p r x = true) := fun j y h1 h2 h3 => by
              rcases Nat.lt_or_ge j k with g | g
              · exact HM.out j y h1 g h3
              · obtain rfl : j = k := by omega
                have := HC.out
                rw [h3] at this
                cases this
                rw [ofR, e1, e2]; rfl
            clear fin
            go_wp2
            go_roundw
            case rel => exact ⟨k + 1, by go_num, by omega, by omega, HE, trivial⟩
            case measure => simp [intOf]; omega
      · obtain rfl : k = rs.length := by omega
        have HE := fin fun y hy => by
          rw [List.getElem?_eq_none (Nat.le_refl _)] at hy
          cases hy
        have HE : Hid _ := HE
        clear fin
        go_wp2
        go_ret
        exact ⟨_, rfl, HE.out, H1.out⟩
end Go.Proofs.Ytppfobeencnbdaa
