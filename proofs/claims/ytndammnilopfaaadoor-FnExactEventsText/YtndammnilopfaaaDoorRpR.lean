/- Contract of the report's row. -/
import Derived.Test.YtndammnilopfaaaDoorRpW
import Derived.BigQuiet
namespace Go.Proofs.YtndammnilopfaaaDoor
open Go.ChangeShapes Go.WideShapes Go.ChangeAt Go.RowKit
theorem take_flat (rs : List (List ByteArray)) (k : Nat) : (rs.take k).flatten.length ≤ rs.flatten.length := by
  have : rs.flatten = (rs.take k).flatten ++ (rs.drop k).flatten := by rw [← List.flatten_append, List.take_append_drop]
  rw [this, List.length_append]
  omega
theorem flat_next {rs : List (List ByteArray)} {k : Nat} {r : List ByteArray} (h : rs[k]? = some r) : (rs.take (k + 1)).flatten = (rs.take k).flatten ++ r := by
  rw [List.take_add_one, h, List.flatten_append]
  simp
/-- The words of a row stand at their place. -/
theorem flat_at {rs : List (List ByteArray)} {k j : Nat} {r : List ByteArray} {t : ByteArray} (h : rs[k]? = some r) (hj : r[j]? = some t) : rs.flatten[(rs.take k).flatten.length + j]? = some t := by
  have e : rs.flatten = (rs.take (k + 1)).flatten ++ (rs.drop (k + 1)).flatten := by rw [← List.flatten_append, List.take_append_drop]
  have hlt := (List.getElem?_eq_some_iff.1 hj).1
  rw [e, flat_next h, List.append_assoc, List.getElem?_append_right (by omega)]
  rw [show (rs.take k).flatten.length + j - (rs.take k).flatten.length = j by omega, List.getElem?_append_left hlt]
  exact hj
theorem own_at1 {W : World} {n₀ n t : Nat} {v : Value} {xs : List Value} (h : W.ownsRow n₀ t 1 v n xs) (hn : 0 < n) : ∃ g C, v = .slice (some ⟨g, 0, none⟩) n C ∧ n₀ ≤ g ∧ g < W.heap.size ∧ n ≤ C ∧ C ≤ 9223372036854775807 ∧ ∀ i x, xs[i]? = some x → W.cell? ⟨g, i, none⟩ = some x := by
  rcases h.2 with ⟨_, h0⟩ | ⟨g, cap, cur, rfl, hg, hh, h1, h2, _⟩
  · omega
  · refine ⟨g, cap, rfl, hg, (Array.getElem?_eq_some_iff.1 hh).1, h1, by unfold maxLen at h2; omega, fun i x hi => ?_⟩
    have h1 := h.cells (g := g) rfl i x hi
    rw [fl_addr] at h1
    simpa using h1
set_option maxHeartbeats 8000000 in
theorem row_any (n0 R k : Nat) (wv ev : Value) (rs : List (List ByteArray)) (r : List ByteArray) (w : World) (h : Rep n0 R w wv ev rs) (hk : rs[k]? = some r) (hr0 : 0 < r.length) (hl : rs.flatten.length ≤ 1000000) (hr : rs.length ≤ 1000000) :
    Calls Tryd.prog 42 #[.pointer (some ⟨R, 0, none⟩), .int .i64 (k : Int)] w fun e w' => (∃ g o, e = .returned (.slice (some ⟨g, o, none⟩) r.length r.length) ∧ g < w.heap.size ∧ ∀ j t, r[j]? = some t → w.cell? ⟨g, o + j, none⟩ = some (.string t)) ∧ Below w.heap.size w w' := by
  have hkl := (List.getElem?_eq_some_iff.1 hk).1
  have hf := flat_next hk
  have hfl : (rs.take (k + 1)).flatten.length = (rs.take k).flatten.length + r.length := by rw [hf, List.length_append]
  have ht := take_flat rs (k + 1)
  obtain ⟨b, hb⟩ : ∃ b, b = (rs.take k).flatten.length := ⟨_, rfl⟩
  obtain ⟨e, he⟩ : ∃ e, e = (rs.take (k + 1)).flatten.length := ⟨_, rfl⟩
  have hbe : b + r.length = e := by omega
  obtain ⟨gw, Cw, rfl, _, hgw, hcw, hcw2, cw⟩ := own_at1 h.words (by omega)
  obtain ⟨ge, Ce, rfl, _, hge, hce, hce2, ce⟩ := own_at1 h.ends (by omega)
  have ce1 := ce k _ (endV_at hkl)
  rw [← he] at ce1
  have ce0 : 0 < k → w.cell? ⟨ge, k - 1, none⟩ = some (.int .i64 (b : Int)) := fun h0 => by
    have := ce (k - 1) _ (endV_at (by omega))
    rw [show k - 1 + 1 = k by omega, ← hb] at this
    exact this
  obtain ⟨k0, k1, _, _⟩ := rp_box h.box
  have HW : Hid (∀ j t, r[j]? = some t → w.cell? ⟨gw, b + j, none⟩ = some (.string t)) := fun j t hj => by
    refine cw (b + j) _ ?_
    unfold wordV
    rw [List.getElem?_map, hb, flat_at hk hj]
    rfl
  have hb0 : k = 0 → b = 0 := fun h0 => by rw [hb, h0]; rfl
  obtain ⟨F, hF⟩ : ∃ F, F = rs.flatten.length := ⟨_, rfl⟩
  rw [← hF] at k0 hcw ht hl
  have heF : e ≤ F := by omega
  have hbe2 : e - b = r.length := by omega
  have HB : Hid (e - b = r.length ∧ b + r.length = e) := ⟨hbe2, hbe⟩
  have hbb : b < e := by omega
  have hbc : e ≤ Cw := by omega
  have hklt : (k : Int) < (rs.length : Int) := by omega
  clear h hk hf hfl hb he cw ce hF ht hbe hbe2
  go_enter Tryd.func42, Tryd.ntmps42
  by_cases hz : 0 < k
  · have hz' : (0 : Int) < (k : Int) := by omega
    have c0 := ce0 hz
    obtain ⟨m, rfl⟩ : ∃ m, k = m + 1 := ⟨k - 1, by omega⟩
    simp only [Nat.add_sub_cancel] at c0
    clear ce0 hb0
    go_wp2_with fail
    go_quiet (fail)
    go_wp2
    go_ret
    exact ⟨⟨gw, b, by rw [← HB.out.1]; rfl, hgw, HW.out⟩, by first | exact below_drewN (Below.refl _ _) _ | exact (Below.refl _ _).drew | exact (below_drewN (Below.refl _ _) _).drew⟩
  · obtain rfl : k = 0 := by omega
    obtain rfl : b = 0 := hb0 rfl
    clear ce0 hb0
    go_wp2_with fail
    go_quiet (fail)
    go_wp2
    go_ret
    exact ⟨⟨gw, 0, by rw [← HB.out.1]; rfl, hgw, HW.out⟩, by first | exact below_drewN (Below.refl _ _) _ | exact (Below.refl _ _).drew | exact (below_drewN (Below.refl _ _) _).drew⟩
end Go.Proofs.YtndammnilopfaaaDoor
