/- Texts of ours put together: RpR, ShBuildR. -/
import Derived.Test.YtjmkdpnoihpfoaaGreatDoorG11
import Derived.BigQuiet
import Derived.Shelf.Strings.Builder1
import Derived.Test.YtjmkdpnoihpfoaaGreatDoorG01
namespace Go.Proofs.YtjmkdpnoihpfoaaGreatDoor
open Go.ChangeShapes Go.WideShapes Go.ChangeAt Go.RowKit
theorem take_flat (rs : List (List ByteArray)) (k : Nat) : (rs.take k).flatten.length ≤ rs.flatten.length := by
  have : rs.flatten = (rs.take k).flatten ++ (rs.drop k).flatten := by rw [← List.flatten_append, List.take_append_drop]
  rw [this, List.length_append]
  omega
theorem flat_next {rs : List (List ByteArray)} {k : Nat} {r : List ByteArray} (h : rs[k]? = some r) : (rs.take (k + 1)).flatten = (rs.take k).flatten ++ r := by
  rw [List.take_add_one, h, List.flatten_append]
  simp
/-- The words of a row stand at their place. -/
theorem flat_at {rs : List (List ByteArray)} {k j : Nat} {r : List ByteArray} {t : ByteArray} (h : rs[k]? = some r) (hj : r[j]? = some t) : rs.flatten[(rs.take k).flatten.length + j]? = some t := by
  have e : rs.flatten = (rs.take (k + 1)).flatten ++ (rs.drop (k + 1)).flatten := by rw [← List.flatten_append, List.take_append_drop]
  have hlt := (List.getElem?_eq_some_iff.1 hj).1
  rw [e, flat_next h, List.append_assoc, List.getElem?_append_right (by omega)]
  rw [show (rs.take k).flatten.length + j - (rs.take k).flatten.length = j by omega, List.getElem?_append_left hlt]
  exact hj
theorem own_at1 {W : World} {n₀ n t : Nat} {v : Value} {xs : List Value} (h : W.ownsRow n₀ t 1 v n xs) (hn : 0 < n) : ∃ g C, v = .slice (some ⟨g, 0, none⟩) n C ∧ n₀ ≤ g ∧ g < W.heap.size ∧ n ≤ C ∧ C ≤ 9223372036854775807 ∧ ∀ i x, xs[i]? = some x → W.cell? ⟨g, i, none⟩ = some x := by
  rcases h.2 with ⟨_, h0⟩ | ⟨g, cap, cur, rfl, hg, hh, h1, h2, _⟩
  · omega
  · refine ⟨g, cap, rfl, hg, (Array.getElem?_eq_some_iff.1 hh).1, h1, by unfold maxLen at h2; omega, fun i x hi => ?_⟩
    have h1 := h.cells (g := g) rfl i x hi
    rw [fl_addr] at h1
    simpa using h1
set_option maxHeartbeats 8000000 in
theorem row_any (n0 R k : Nat) (wv ev : Value) (rs : List (List ByteArray)) (r : List ByteArray) (w : World) (h : Rep n0 R w wv ev rs) (hk : rs[k]? = some r) (hr0 : 0 < r.length) (hl : rs.flatten.length ≤ 1000000) (hr : rs.length ≤ 1000000) :
    Calls Tryz.prog 45 #[.pointer (some ⟨R, 0, none⟩), .int .i64 (k : Int)] w fun e w' => (∃ g o, e = .returned (.slice (some ⟨g, o, none⟩) r.length r.length) ∧ g < w.heap.size ∧ ∀ j t, r[j]? = some t → w.cell? ⟨g, o + j, none⟩ = some (.string t)) ∧ Below w.heap.size w w' := by
  have hkl := (List.getElem?_eq_some_iff.1 hk).1
  have hf := flat_next hk
  have hfl : (rs.take (k + 1)).flatten.length = (rs.take k).flatten.length + r.length := by rw [hf, List.length_append]
  have ht := take_flat rs (k + 1)
  obtain ⟨b, hb⟩ : ∃ b, b = (rs.take k).flatten.length := ⟨_, rfl⟩
  obtain ⟨e, he⟩ : ∃ e, e = (rs.take (k + 1)).flatten.length := ⟨_, rfl⟩
  have hbe : b + r.length = e := by omega
  obtain ⟨gw, Cw, rfl, _, hgw, hcw, hcw2, cw⟩ := own_at1 h.words (by omega)
  obtain ⟨ge, Ce, rfl, _, hge, hce, hce2, ce⟩ := own_at1 h.ends (by omega)
  have ce1 := ce k _ (endV_at hkl)
  rw [← he] at ce1
  have ce0 : 0 < k → w.cell? ⟨ge, k - 1, none⟩ = some (.int .i64 (b : Int)) := fun h0 => by
    have := ce (k - 1) _ (endV_at (by omega))
    rw [show k - 1 + 1 = k by omega, ← hb] at this
    exact this
  obtain ⟨k0, k1, _, _⟩ := rp_box h.box
  have HW : Hid (∀ j t, r[j]? = some t → w.cell? ⟨gw, b + j, none⟩ = some (.string t)) := fun j t hj => by
    refine cw (b + j) _ ?_
    unfold wordV
    rw [List.getElem?_map, hb, flat_at hk hj]
    rfl
  have hb0 : k = 0 → b = 0 := fun h0 => by rw [hb, h0]; rfl
  obtain ⟨F, hF⟩ : ∃ F, F = rs.flatten.length := ⟨_, rfl⟩
  rw [← hF] at k0 hcw ht hl
  have heF : e ≤ F := by omega
  have hbe2 : e - b = r.length := by omega
  have HB : Hid (e - b = r.length ∧ b + r.length = e) := ⟨hbe2, hbe⟩
  have hbb : b < e := by omega
  have hbc : e ≤ Cw := by omega
  have hklt : (k : Int) < (rs.length : Int) := by omega
  clear h hk hf hfl hb he cw ce hF ht hbe hbe2
  go_enter Tryz.func45, Tryz.ntmps45
  by_cases hz : 0 < k
  · have hz' : (0 : Int) < (k : Int) := by omega
    have c0 := ce0 hz
    obtain ⟨m, rfl⟩ : ∃ m, k = m + 1 := ⟨k - 1, by omega⟩
    simp only [Nat.add_sub_cancel] at c0
    clear ce0 hb0
    go_wp2_with fail
    go_quiet (fail)
    go_wp2
    go_ret
    exact ⟨⟨gw, b, by rw [← HB.out.1]; rfl, hgw, HW.out⟩, by first | exact below_drewN (Below.refl _ _) _ | exact (Below.refl _ _).drew | exact (below_drewN (Below.refl _ _) _).drew⟩
  · obtain rfl : k = 0 := by omega
    obtain rfl : b = 0 := hb0 rfl
    clear ce0 hb0
    go_wp2_with fail
    go_quiet (fail)
    go_wp2
    go_ret
    exact ⟨⟨gw, 0, by rw [← HB.out.1]; rfl, hgw, HW.out⟩, by first | exact below_drewN (Below.refl _ _) _ | exact (Below.refl _ _).drew | exact (below_drewN (Below.refl _ _) _).drew⟩
end Go.Proofs.YtjmkdpnoihpfoaaGreatDoor
namespace Go.Proofs.YtjmkdpnoihpfoaaGreatDoor
open Go.Shelf Go.RowKit
def renB : Go.Shelf.Ren := ⟨fun | 166 => 43 | 167 => 46 | 169 => 47 | 240 => 60 | 276 => 72 | n => n, fun | 0 => 0 | 3 => 3 | 4 => 4 | 5 => 5 | 9 => 9 | 20 => 20 | 37 => 62 | 70 => 75 | 72 => 77 | 75 => 79 | 164 => 103 | 80 => 49 | 127 => 94 | n => n, fun | n => n⟩
theorem laysWS : Go.Proofs.Lays.n166 Tryz.prog renB := {
  mixed := by kernel_rfl
  f166 := Tryz.func43.trans (congrArg some (by kernel_rfl))
  f240 := Tryz.func60.trans (congrArg some (by kernel_rfl))
  f276 := Tryz.func72.trans (congrArg some (by kernel_rfl))
  t0 := Tryz.underlying0
  a0 := Tryz.isAgg0
  z0 := Tryz.sizeOf0
  v0 := Tryz.zeroValue0
  t3 := Tryz.underlying3
  a3 := Tryz.isAgg3
  z3 := Tryz.sizeOf3
  v3 := Tryz.zeroValue3
  t4 := Tryz.underlying4
  a4 := Tryz.isAgg4
  z4 := Tryz.sizeOf4
  v4 := Tryz.zeroValue4
  t9 := Tryz.underlying9
  a9 := Tryz.isAgg9
  z9 := Tryz.sizeOf9
  v9 := Tryz.zeroValue9
  t20 := Tryz.underlying20
  a20 := Tryz.isAgg20
  z20 := Tryz.sizeOf20
  v20 := Tryz.zeroValue20
  t37 := Tryz.underlying62
  a37 := Tryz.isAgg62
  z37 := Tryz.sizeOf62
  v37 := Tryz.zeroValue62
  t70 := Tryz.underlying75
  a70 := Tryz.isAgg75
  z70 := Tryz.sizeOf75
  v70 := Tryz.zeroValue75
  t72 := Tryz.underlying77
  a72 := Tryz.isAgg77
  z72 := Tryz.sizeOf77
  v72 := Tryz.zeroValue77
  t75 := Tryz.underlying79
  a75 := Tryz.isAgg79
  z75 := Tryz.sizeOf79
  v75 := Tryz.zeroValue79
  t164 := Tryz.underlying103
  a164 := Tryz.isAgg103
  z164 := Tryz.sizeOf103
  v164 := Tryz.zeroValue103 }
theorem laysWB : Go.Proofs.Lays.n167 Tryz.prog renB := {
  mixed := by kernel_rfl
  f167 := Tryz.func46.trans (congrArg some (by kernel_rfl))
  f240 := Tryz.func60.trans (congrArg some (by kernel_rfl))
  f276 := Tryz.func72.trans (congrArg some (by kernel_rfl))
  t0 := Tryz.underlying0
  a0 := Tryz.isAgg0
  z0 := Tryz.sizeOf0
  v0 := Tryz.zeroValue0
  t4 := Tryz.underlying4
  a4 := Tryz.isAgg4
  z4 := Tryz.sizeOf4
  v4 := Tryz.zeroValue4
  t5 := Tryz.underlying5
  a5 := Tryz.isAgg5
  z5 := Tryz.sizeOf5
  v5 := Tryz.zeroValue5
  t9 := Tryz.underlying9
  a9 := Tryz.isAgg9
  z9 := Tryz.sizeOf9
  v9 := Tryz.zeroValue9
  t20 := Tryz.underlying20
  a20 := Tryz.isAgg20
  z20 := Tryz.sizeOf20
  v20 := Tryz.zeroValue20
  t37 := Tryz.underlying62
  a37 := Tryz.isAgg62
  z37 := Tryz.sizeOf62
  v37 := Tryz.zeroValue62
  t70 := Tryz.underlying75
  a70 := Tryz.isAgg75
  z70 := Tryz.sizeOf75
  v70 := Tryz.zeroValue75
  t72 := Tryz.underlying77
  a72 := Tryz.isAgg77
  z72 := Tryz.sizeOf77
  v72 := Tryz.zeroValue77
  t75 := Tryz.underlying79
  a75 := Tryz.isAgg79
  z75 := Tryz.sizeOf79
  v75 := Tryz.zeroValue79
  t164 := Tryz.underlying103
  a164 := Tryz.isAgg103
  z164 := Tryz.sizeOf103
  v164 := Tryz.zeroValue103 }
theorem laysSt : Go.Proofs.Lays.n169 Tryz.prog renB := {
  mixed := by kernel_rfl
  f169 := Tryz.func47.trans (congrArg some (by kernel_rfl))
  t0 := Tryz.underlying0
  a0 := Tryz.isAgg0
  z0 := Tryz.sizeOf0
  v0 := Tryz.zeroValue0
  t3 := Tryz.underlying3
  a3 := Tryz.isAgg3
  z3 := Tryz.sizeOf3
  v3 := Tryz.zeroValue3
  t9 := Tryz.underlying9
  a9 := Tryz.isAgg9
  z9 := Tryz.sizeOf9
  v9 := Tryz.zeroValue9
  t37 := Tryz.underlying62
  a37 := Tryz.isAgg62
  z37 := Tryz.sizeOf62
  v37 := Tryz.zeroValue62
  t70 := Tryz.underlying75
  a70 := Tryz.isAgg75
  z70 := Tryz.sizeOf75
  v70 := Tryz.zeroValue75
  t72 := Tryz.underlying77
  a72 := Tryz.isAgg77
  z72 := Tryz.sizeOf77
  v72 := Tryz.zeroValue77
  t127 := Tryz.underlying94
  a127 := Tryz.isAgg94
  z127 := Tryz.sizeOf94
  v127 := Tryz.zeroValue94 }
theorem extraB : Builder.Extra Tryz.prog renB where
  sizeBuilder := by kernel_rfl
  liesBuilder := by kernel_rfl
  t5 := Tryz.underlying5
  a5 := Tryz.isAgg5
  z5 := Tryz.sizeOf5
  v5 := Tryz.zeroValue5
  infoByte := by kernel_rfl
  cellsByte := by kernel_rfl
  sizeByte := by kernel_rfl
  neB5 := by decide
theorem writeByte_any (B b : Nat) (bs : List Value) (c : Int) (w : World) (h : Lib.IsBuilder 77 5 B b bs w) (hlen : bs.length + 1 ≤ 140737488355328) (hBw : B ≤ w.heap.size) :
    Calls Tryz.prog 46 #[.pointer (some ⟨b, 0, none⟩), .int .u8 c] w fun e w' => e = .returned .nilIface ∧ (Lib.BuilderAt 77 5 B b (.pointer (some ⟨b, 0, none⟩)) (bs ++ [.int .u8 c]) w' ∧ Below B w w') := Any.Builder_WriteByte laysWB extraB B b bs c w h hlen hBw
theorem writeString_any (B b : Nat) (bs : List Value) (s : ByteArray) (w : World) (h : Lib.IsBuilder 77 5 B b bs w) (hlen : bs.length + s.size ≤ 140737488355328) (hBw : B ≤ w.heap.size) :
    Calls Tryz.prog 43 #[.pointer (some ⟨b, 0, none⟩), .string s] w fun e w' => e = .returned (.tuple #[.int .i64 s.size, .nilIface]) ∧ (Lib.BuilderAt 77 5 B b (.pointer (some ⟨b, 0, none⟩)) (bs ++ Lib.strCells s) w' ∧ Below B w w') := Any.Builder_WriteString laysWS extraB B b bs s w h hlen hBw
theorem string_any (B b : Nat) (l : List UInt8) (w : World) (h : Lib.IsBuilder 77 5 B b (Lib.byteCells l) w) (hBw : B ≤ w.heap.size) :
    Calls Tryz.prog 47 #[.pointer (some ⟨b, 0, none⟩)] w fun e w' => e = .returned (.string ⟨l.toArray⟩) ∧ Below B w w' := Any.Builder_String_any laysSt extraB B b l w h hBw
end Go.Proofs.YtjmkdpnoihpfoaaGreatDoor
