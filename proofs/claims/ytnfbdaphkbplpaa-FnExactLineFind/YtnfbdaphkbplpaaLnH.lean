/- Contract of the model's LineFind. -/
import Derived.Test.YtnfbdaphkbplpaaLnG
import Derived.Test.YtnfbdaphkbplpaaLnB
namespace Go.Proofs.Ytnfbdaphkbplpaa
open Go.ChangeShapes Go.WideShapes Go.ChangeAt Go.RowKit
theorem ba_yes {a b : ByteArray} (h : (a.toList == b.toList) = true) : a = b := ba_list (by simpa using h)
theorem ba_no {a b : ByteArray} (h : (a.toList == b.toList) = false) : a ≠ b := fun e => by
  rw [e] at h
  simp at h
set_option maxHeartbeats 4000000 in
theorem lineFind_spec (v : Value) (rs : List OLn) (p r : ByteArray) (n : Int) (w : World) (h : RowOl w v rs) (hp : p.size ≤ 9223372036854775807) (hr : r.size ≤ 9223372036854775807) :
    Calls Try.prog 26 #[v, .string p, .string r, .int .i64 n] w fun e w' => e = .returned (.int .i64 (findT rs p r n)) ∧ Below w.heap.size w w' := by
  have hlen := h.len
  obtain ⟨A, Cp, rfl⟩ := h.val
  have H0 : Hid (RowOl w (.slice A rs.length Cp) rs) := h
  clear h
  obtain ⟨z, hz⟩ : ∃ z, z = findT rs p r n := ⟨_, rfl⟩
  rw [← hz]
  have HZ : Hid (z = findT rs p r n) := hz
  clear hz
  go_enter Try.func26, Try.ntmps26
  by_cases h0 : 400 < rs.length
  · have h0' : (400 : Int) < (rs.length : Int) := by omega
    have HE : Hid (z = 0) := by show z = 0; rw [HZ.out]; exact findT_of (.inl ⟨fun e => by omega, rfl⟩)
    go_wp2
    go_ret
    exact ⟨by rw [HE.out]; rfl, Below.refl _ _⟩
  have h0' : ¬ (400 : Int) < (rs.length : Int) := by omega
  by_cases h1 : 20000 < p.size
  · have h1' : (20000 : Int) < (p.size : Int) := by omega
    have HE : Hid (z = 0) := by show z = 0; rw [HZ.out]; exact findT_of (.inl ⟨fun e => by omega, rfl⟩)
    go_wp2
    go_ret
    exact ⟨by rw [HE.out]; rfl, Below.refl _ _⟩
  have h1' : ¬ (20000 : Int) < (p.size : Int) := by omega
  by_cases h2 : 20000 < r.size
  · have h2' : (20000 : Int) < (r.size : Int) := by omega
    have HE : Hid (z = 0) := by show z = 0; rw [HZ.out]; exact findT_of (.inl ⟨fun e => by omega, rfl⟩)
    go_wp2
    go_ret
    exact ⟨by rw [HE.out]; rfl, Below.refl _ _⟩
  have h2' : ¬ (20000 : Int) < (r.size : Int) := by omega
  go_wp2_with fail
  refine (linesRight_spec _ rs _ H0.out).mono ?_
  rintro e w1 ⟨rfl, hb1⟩
  have H1 : Hid (Below w.heap.size w w1 ∧ RowOl w1 (.slice A rs.length Cp) rs) := ⟨hb1, H0.out.below hb1⟩
  clear hb1
  cases hrb : lnsB rs
  · have HE : Hid (z = -1) := by show z = -1; rw [HZ.out]; exact findT_of (.inr ⟨⟨by omega, by omega, by omega⟩, .inl ⟨lnsB_iff'.1 hrb, rfl⟩⟩)
    go_wp2
    go_ret
    exact ⟨by rw [HE.out]; rfl, H1.out.1⟩
  have HRL : Hid (RightL rs) := lnsB_iff.1 hrb
  clear hrb
  have HFD : Hid (∀ y, ((∃ i x, rs[i]? = some x ∧ keyL x = (p, r, n) ∧ y = ((i : Nat) : Int)) ∨ ((∀ x ∈ rs, keyL x ≠ (p, r, n)) ∧ y = -1)) → z = y) := fun y hy => by rw [HZ.out]; exact findT_of (.inr ⟨⟨by omega, by omega, by omega⟩, .inr ⟨HRL.out, hy⟩⟩)
  go_wp2_with fail
  go_loopw [9] (fun i wr => ∃ k : Nat, i = .int .i64 (k : Int) ∧ k ≤ rs.length ∧ Below w1.heap.size w1 wr ∧ ∀ j d, j < k → rs[j]? = some d → keyL d ≠ (p, r, n)) (fun i _ => rs.length - (intOf i).toNat)
  case atStart => exact ⟨0, rfl, by omega, Below.refl _ _, fun j d hj => by omega⟩
  case round =>
    obtain ⟨k, rfl, hk, hb, hno⟩ := hrel
    have HI : Hid (Below w1.heap.size w1 wr ∧ (∀ j d, j < k → rs[j]? = some d → keyL d ≠ (p, r, n)) ∧ Below w.heap.size w wr) := ⟨hb, hno, H1.out.1.trans (hb.mono H1.out.1.size)⟩
    clear hno hb
    by_cases hlt : k < rs.length
    · have hlt' : (k : Int) < (rs.length : Int) := by omega
      obtain ⟨b, o, cap', c, e, hs, ⟨q0, q1, q2, _⟩, hz⟩ := (H1.out.2.below HI.out.1).at hlt
      simp only [Value.slice.injEq, true_and] at e
      obtain ⟨rfl, rfl⟩ := e
      have HS : Hid (rs[k]? = some c) := hs
      clear hs hz
      have HR : Hid (keyL c ≠ (p, r, n) → ∀ j d, j < k + 1 → rs[j]? = some d → keyL d ≠ (p, r, n)) := fun hc j d hj hd => by
        rcases Nat.lt_or_ge j k with g | g
        · exact HI.out.2.1 j d g hd
        · obtain rfl : j = k := by omega
          rw [HS.out] at hd
          cases hd
          exact hc
      cases e1 : (c.partner.toList == p.toList)
      · have HN : Hid (keyL c ≠ (p, r, n)) := fun e => ba_no e1 (congrArg Prod.fst e)
        go_wp2
        go_roundw
        case rel => exact ⟨k + 1, by go_num, by omega, HI.out.1, HR.out HN.out⟩
        case measure => simp [intOf]; omega
      · cases e2 : (c.ref.toList == r.toList)
        · have HN : Hid (keyL c ≠ (p, r, n)) := fun e => ba_no e2 (congrArg (fun y => y.2.1) e)
          go_wp2
          go_roundw
          case rel => exact ⟨k + 1, by go_num, by omega, HI.out.1, HR.out HN.out⟩
          case measure => simp [intOf]; omega
        · by_cases e3 : c.no = n
          · have HF : Hid (z = (k : Int)) := HFD.out _ (.inl ⟨k, c, HS.out, by simp [keyL, ba_yes e1, ba_yes e2, e3], rfl⟩)
            go_wp2
            go_ret
            exact ⟨by rw [HF.out]; rfl, HI.out.2.2⟩
          · have HN : Hid (keyL c ≠ (p, r, n)) := fun e => e3 (congrArg (fun y => y.2.2) e)
            go_wp2
            go_roundw
            case rel => exact ⟨k + 1, by go_num, by omega, HI.out.1, HR.out HN.out⟩
            case measure => simp [intOf]; omega
    · obtain rfl : k = rs.length := by omega
      have HF : Hid (z = -1) := HFD.out _ (.inr ⟨fun x hx => by
        obtain ⟨j, hj⟩ := List.mem_iff_getElem?.1 hx
        exact HI.out.2.1 j x (List.getElem?_eq_some_iff.1 hj).1 hj, rfl⟩)
      go_wp2
      go_ret
      exact ⟨by rw [HF.out]; rfl, HI.out.2.2⟩
end Go.Proofs.Ytnfbdaphkbplpaa
