/- The marks written into a list of Seen, and held. -/
import Derived.Test.YtnnfkifjkmodpaaRowSn
namespace Go.Proofs.Ytnnfkifjkmodpaa
open Go.ChangeShapes Go.WideShapes Go.ChangeAt Go.RowKit
/-- What the marks make of it. -/
def mkSn (k : Int) (i : Nat) : Sn := ⟨(k + ((i * 3 + 0 : Nat) : Int)), (k + ((i * 3 + 1 : Nat) : Int)), (k + ((i * 3 + 2 : Nat) : Int))⟩
def mkSns (k : Int) (n : Nat) : List Sn := (List.range n).map (mkSn k)
theorem mkSns_len (k : Int) (n : Nat) : (mkSns k n).length = n := by simp [mkSns]
theorem mkSns_at {k : Int} {n i : Nat} {g : Sn} (h : (mkSns k n)[i]? = some g) : i < n ∧ g = mkSn k i := by
  have hi := (List.getElem?_eq_some_iff.1 h).1
  rw [mkSns_len] at hi
  refine ⟨hi, ?_⟩
  simpa [mkSns, hi] using h.symm
set_option maxHeartbeats 2000000 in
theorem markSns_any (b : Nat) (v : Value) (rs : List Sn) (k : Int) (w : World) (h : LSn b w v rs) (hk : 0 ≤ k ∧ k + (rs.length * 3 : Nat) ≤ 9000000000000000000) :
    Calls Try.prog 40 #[v, .int .i64 k] w fun e w' => e = .returned (.int .i64 (k + (rs.length * 3 : Nat))) ∧ LSn b w' v (mkSns k rs.length) ∧ Keep b w w' := by
  have hlen := h.len
  obtain ⟨a, cap, rfl⟩ := h.val
  rcases Nat.eq_zero_or_pos rs.length with h0 | h0
  · have hnil : rs = [] := List.eq_nil_of_length_eq_zero h0
    subst hnil
    obtain ⟨_, _, e, _⟩ := h.shape
    clear h
    go_enter Try.func40, Try.ntmps40
    go_wp2
    go_loopw [1, 5] (fun q i wr => q = .int .i64 k ∧ i = .int .i64 0 ∧ wr = w) (fun _ _ _ => 0)
    case atStart => exact ⟨rfl, rfl, rfl⟩
    case round =>
      obtain ⟨rfl, rfl, rfl⟩ := hrel
      go_wp2
      go_ret
      exact ⟨by simp, ⟨⟨_, _, rfl, fun h => absurd rfl h⟩, by simp [mkSns]⟩, Keep.refl _ _⟩
  · obtain ⟨a', cap', e, hc⟩ := h.shape
    simp only [Value.slice.injEq, true_and] at e
    obtain ⟨rfl, rfl⟩ := e
    obtain ⟨rfl, m, f, hR, hm, hf⟩ := hc (by intro g; rw [g] at h0; simp at h0)
    have HR : Hid (w.rowIs b 30 m f ∧ ∀ (i : Nat) (g : Sn), rs[i]? = some g → f (i * 3) = .int .i64 g.number ∧ f (i * 3 + 1) = .int .i64 g.answer ∧ f (i * 3 + 2) = .int .i64 g.code) := ⟨hR, hf⟩
    clear h hR hf hc
    go_enter Try.func40, Try.ntmps40
    go_wp2
    go_loopw [1, 5] (fun q i wr => ∃ (j : Nat) (f : Nat → Value), q = .int .i64 (k + (j * 3 : Nat)) ∧ i = .int .i64 (j : Int) ∧ j ≤ rs.length ∧ wr.rowIs b 30 m f ∧ (∀ i, i < rs.length → ∀ c, c < 3 → ∃ z, f (i * 3 + c) = .int .i64 z) ∧ (∀ i, i < j → f (i * 3) = .int .i64 (k + ((i * 3 + 0 : Nat) : Int)) ∧ f (i * 3 + 1) = .int .i64 (k + ((i * 3 + 1 : Nat) : Int)) ∧ f (i * 3 + 2) = .int .i64 (k + ((i * 3 + 2 : Nat) : Int))) ∧ Keep b w wr) (fun _ i _ => rs.length - (intOf i).toNat)
    case atStart =>
      refine ⟨0, f, by simp, rfl, by omega, HR.out.1, fun i hi c hc => ?_, fun i hi => by omega, Keep.refl _ _⟩
      obtain ⟨e0, e1, e2⟩ := HR.out.2 i _ (List.getElem?_eq_getElem hi)
      match c, hc with
      | 0, _ => exact ⟨_, e0⟩
      | 1, _ => exact ⟨_, e1⟩
      | 2, _ => exact ⟨_, e2⟩
    case round =>
      obtain ⟨j, f, rfl, rfl, hj, hR, hI, hA, hK⟩ := hrel
      by_cases hlt : j < rs.length
      · have hlt' : (j : Int) < (rs.length : Int) := by omega
        obtain ⟨z0, e0⟩ := hI j hlt 0 (by omega)
        have e0' : f (j * 3) = .int .i64 z0 := e0
        have k0 := hR.cell (i := j * 3) (by omega)
        rw [e0'] at k0
        obtain ⟨z1, e1⟩ := hI j hlt 1 (by omega)
        have e1' : f (j * 3 + 1) = .int .i64 z1 := e1
        have k1 := hR.cell (i := j * 3 + 1) (by omega)
        rw [e1'] at k1
        obtain ⟨z2, e2⟩ := hI j hlt 2 (by omega)
        have e2' : f (j * 3 + 2) = .int .i64 z2 := e2
        have k2 := hR.cell (i := j * 3 + 2) (by omega)
        rw [e2'] at k2
        have hfz := hR.frozen
        have HS : Hid (wr.rowIs b 30 m f ∧ (∀ i, i < rs.length → ∀ c, c < 3 → ∃ z, f (i * 3 + c) = .int .i64 z) ∧ (∀ i, i < j → f (i * 3) = .int .i64 (k + ((i * 3 + 0 : Nat) : Int)) ∧ f (i * 3 + 1) = .int .i64 (k + ((i * 3 + 1 : Nat) : Int)) ∧ f (i * 3 + 2) = .int .i64 (k + ((i * 3 + 2 : Nat) : Int))) ∧ Keep b w wr) := ⟨hR, hI, hA, hK⟩
        clear hR hI hA hK e0 e0' e1 e1' e2 e2'
        go_wp2
        go_roundw
        case rel =>
          refine ⟨j + 1, _, by go_num, by go_num, by omega, (((HS.out.1.set (j * 3) _).set (j * 3 + 1) _).set (j * 3 + 2) _), fun i hi c hc => ?_, fun i hi => ?_, (((HS.out.2.2.2.setCell _ _).setCell _ _).setCell _ _)⟩
          · repeat' split
            all_goals first | exact ⟨_, rfl⟩ | exact HS.out.2.1 i hi c hc
          · by_cases e1 : i = j
            · subst e1
              refine ⟨?_, ?_, ?_⟩
              · rw [if_neg (by omega), if_neg (by omega), if_pos rfl]
                congr 1 <;> omega
              · rw [if_neg (by omega), if_pos rfl]
                congr 1 <;> omega
              · rw [if_pos rfl]
                congr 1 <;> omega
            · obtain ⟨r0, r1, r2⟩ := HS.out.2.2.1 i (by omega)
              refine ⟨?_, ?_, ?_⟩
              all_goals rw [if_neg (by omega), if_neg (by omega), if_neg (by omega)]
              all_goals assumption
        case measure => simp [intOf]; omega
      · obtain rfl : j = rs.length := by omega
        have HS : Hid (wr.rowIs b 30 m f ∧ (∀ i, i < rs.length → f (i * 3) = .int .i64 (k + ((i * 3 + 0 : Nat) : Int)) ∧ f (i * 3 + 1) = .int .i64 (k + ((i * 3 + 1 : Nat) : Int)) ∧ f (i * 3 + 2) = .int .i64 (k + ((i * 3 + 2 : Nat) : Int))) ∧ Keep b w wr) := ⟨hR, hA, hK⟩
        clear hR hI hA hK
        go_wp2
        go_ret
        refine ⟨rfl, ⟨⟨_, _, by rw [mkSns_len], fun _ => ⟨rfl, m, f, HS.out.1, by rw [mkSns_len]; exact hm, fun i g hg => ?_⟩⟩, by rw [mkSns_len]; omega⟩, HS.out.2.2⟩
        obtain ⟨hi, rfl⟩ := mkSns_at hg
        exact HS.out.2.1 i hi
set_option maxHeartbeats 2000000 in
theorem heldSns_any (v : Value) (n : Nat) (k : Int) (w : World) (h : RowSn w v (mkSns k n)) (hk : 0 ≤ k ∧ k + (n * 3 : Nat) ≤ 9000000000000000000) :
    Calls Try.prog 52 #[v, .int .i64 k] w fun e w' => e = .returned (.int .i64 (k + (n * 3 : Nat))) ∧ Below w.heap.size w w' := by
  have hlen := h.len
  obtain ⟨a, cap, rfl⟩ := h.val
  rw [mkSns_len] at hlen h ⊢
  have H : Hid (RowSn w (.slice a n cap) (mkSns k n)) := h
  clear h
  go_enter Try.func52, Try.ntmps52
  go_wp2
  go_loopw [1, 5] (fun q i wr => ∃ j : Nat, q = .int .i64 (k + (j * 3 : Nat)) ∧ i = .int .i64 (j : Int) ∧ j ≤ n ∧ Below w.heap.size w wr) (fun _ i _ => n - (intOf i).toNat)
  case atStart => exact ⟨0, by simp, rfl, by omega, Below.refl _ _⟩
  case round =>
    obtain ⟨j, rfl, rfl, hj, hb⟩ := hrel
    have HB : Hid (Below w.heap.size w wr) := hb
    by_cases hlt : j < n
    · have hlt' : (j : Int) < (n : Int) := by omega
      obtain ⟨b, o, c1, g, e, hs, ⟨q0, q1, q2⟩⟩ := (H.out.below hb).at (k := j) (by rw [mkSns_len]; exact hlt)
      simp only [mkSns_len, Value.slice.injEq, true_and] at e
      obtain ⟨rfl, rfl⟩ := e
      obtain ⟨_, rfl⟩ := mkSns_at hs
      clear hs hb
      have q0' : wr.cell? ⟨b, o + j * 3, none⟩ = some (.int .i64 (k + (j : Int) * 3)) := by rw [q0]; congr 2 <;> (simp only [mkSn]; omega)
      have q1' : wr.cell? ⟨b, o + j * 3 + 1, none⟩ = some (.int .i64 (k + (j : Int) * 3 + 1)) := by rw [q1]; congr 2 <;> (simp only [mkSn]; omega)
      have q2' : wr.cell? ⟨b, o + j * 3 + 2, none⟩ = some (.int .i64 (k + (j : Int) * 3 + 1 + 1)) := by rw [q2]; congr 2 <;> (simp only [mkSn]; omega)
      clear q0 q1 q2
      go_wp2
      go_roundw
      case rel => exact ⟨j + 1, by go_num, by go_num, by omega, HB.out⟩
      case measure => simp [intOf]; omega
    · obtain rfl : j = n := by omega
      clear hb
      go_wp2
      go_ret
      exact ⟨rfl, HB.out⟩
end Go.Proofs.Ytnnfkifjkmodpaa
