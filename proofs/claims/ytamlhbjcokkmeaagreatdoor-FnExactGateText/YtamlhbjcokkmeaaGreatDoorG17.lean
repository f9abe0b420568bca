/- Texts of ours put together: RpR, ShBuildR, ShJoin, RpT. -/
import Derived.Test.YtamlhbjcokkmeaaGreatDoorG16
import Derived.BigQuiet
import Derived.Shelf.Strings.Builder1
import Derived.Test.YtamlhbjcokkmeaaGreatDoorG00
import Derived.Shelf.Strings.OnBuilder
import Derived.Test.YtamlhbjcokkmeaaGreatDoorRows
namespace Go.Proofs.YtamlhbjcokkmeaaGreatDoor
open Go.ChangeShapes Go.WideShapes Go.ChangeAt Go.RowKit
theorem take_flat (rs : List (List ByteArray)) (k : Nat) : (rs.take k).flatten.length ≤ rs.flatten.length := by
  have : rs.flatten = (rs.take k).flatten ++ (rs.drop k).flatten := by rw [← List.flatten_append, List.take_append_drop]
  rw [this, List.length_append]
  omega
theorem flat_next {rs : List (List ByteArray)} {k : Nat} {r : List ByteArray} (h : rs[k]? = some r) : (rs.take (k + 1)).flatten = (rs.take k).flatten ++ r := by
  rw [List.take_add_one, h, List.flatten_append]
  simp
/-- The words of a row stand at their place. -/
theorem flat_at {rs : List (List ByteArray)} {k j : Nat} {r : List ByteArray} {t : ByteArray} (h : rs[k]? = some r) (hj : r[j]? = some t) : rs.flatten[(rs.take k).flatten.length + j]? = some t := by
  have e : rs.flatten = (rs.take (k + 1)).flatten ++ (rs.drop (k + 1)).flatten := by rw [← List.flatten_append, List.take_append_drop]
  have hlt := (List.getElem?_eq_some_iff.1 hj).1
  rw [e, flat_next h, List.append_assoc, List.getElem?_append_right (by omega)]
  rw [show (rs.take k).flatten.length + j - (rs.take k).flatten.length = j by omega, List.getElem?_append_left hlt]
  exact hj
theorem own_at1 {W : World} {n₀ n t : Nat} {v : Value} {xs : List Value} (h : W.ownsRow n₀ t 1 v n xs) (hn : 0 < n) : ∃ g C, v = .slice (some ⟨g, 0, none⟩) n C ∧ n₀ ≤ g ∧ g < W.heap.size ∧ n ≤ C ∧ C ≤ 9223372036854775807 ∧ ∀ i x, xs[i]? = some x → W.cell? ⟨g, i, none⟩ = some x := by
  rcases h.2 with ⟨_, h0⟩ | ⟨g, cap, cur, rfl, hg, hh, h1, h2, _⟩
  · omega
  · refine ⟨g, cap, rfl, hg, (Array.getElem?_eq_some_iff.1 hh).1, h1, by unfold maxLen at h2; omega, fun i x hi => ?_⟩
    have h1 := h.cells (g := g) rfl i x hi
    rw [fl_addr] at h1
    simpa using h1
set_option maxHeartbeats 8000000 in
theorem row_any (n0 R k : Nat) (wv ev : Value) (rs : List (List ByteArray)) (r : List ByteArray) (w : World) (h : Rep n0 R w wv ev rs) (hk : rs[k]? = some r) (hr0 : 0 < r.length) (hl : rs.flatten.length ≤ 1000000) (hr : rs.length ≤ 1000000) :
    Calls Tryz.prog 80 #[.pointer (some ⟨R, 0, none⟩), .int .i64 (k : Int)] w fun e w' => (∃ g o, e = .returned (.slice (some ⟨g, o, none⟩) r.length r.length) ∧ g < w.heap.size ∧ ∀ j t, r[j]? = some t → w.cell? ⟨g, o + j, none⟩ = some (.string t)) ∧ Below w.heap.size w w' := by
  have hkl := (List.getElem?_eq_some_iff.1 hk).1
  have hf := flat_next hk
  have hfl : (rs.take (k + 1)).flatten.length = (rs.take k).flatten.length + r.length := by rw [hf, List.length_append]
  have ht := take_flat rs (k + 1)
  obtain ⟨b, hb⟩ : ∃ b, b = (rs.take k).flatten.length := ⟨_, rfl⟩
  obtain ⟨e, he⟩ : ∃ e, e = (rs.take (k + 1)).flatten.length := ⟨_, rfl⟩
  have hbe : b + r.length = e := by omega
  obtain ⟨gw, Cw, rfl, _, hgw, hcw, hcw2, cw⟩ := own_at1 h.words (by omega)
  obtain ⟨ge, Ce, rfl, _, hge, hce, hce2, ce⟩ := own_at1 h.ends (by omega)
  have ce1 := ce k _ (endV_at hkl)
  rw [← he] at ce1
  have ce0 : 0 < k → w.cell? ⟨ge, k - 1, none⟩ = some (.int .i64 (b : Int)) := fun h0 => by
    have := ce (k - 1) _ (endV_at (by omega))
    rw [show k - 1 + 1 = k by omega, ← hb] at this
    exact this
  obtain ⟨k0, k1, _, _⟩ := rp_box h.box
  have HW : Hid (∀ j t, r[j]? = some t → w.cell? ⟨gw, b + j, none⟩ = some (.string t)) := fun j t hj => by
    refine cw (b + j) _ ?_
    unfold wordV
    rw [List.getElem?_map, hb, flat_at hk hj]
    rfl
  have hb0 : k = 0 → b = 0 := fun h0 => by rw [hb, h0]; rfl
  obtain ⟨F, hF⟩ : ∃ F, F = rs.flatten.length := ⟨_, rfl⟩
  rw [← hF] at k0 hcw ht hl
  have heF : e ≤ F := by omega
  have hbe2 : e - b = r.length := by omega
  have HB : Hid (e - b = r.length ∧ b + r.length = e) := ⟨hbe2, hbe⟩
  have hbb : b < e := by omega
  have hbc : e ≤ Cw := by omega
  have hklt : (k : Int) < (rs.length : Int) := by omega
  clear h hk hf hfl hb he cw ce hF ht hbe hbe2
  go_enter Tryz.func80, Tryz.ntmps80
  by_cases hz : 0 < k
  · have hz' : (0 : Int) < (k : Int) := by omega
    have c0 := ce0 hz
    obtain ⟨m, rfl⟩ : ∃ m, k = m + 1 := ⟨k - 1, by omega⟩
    simp only [Nat.add_sub_cancel] at c0
    clear ce0 hb0
    go_wp2_with fail
    go_quiet (fail)
    go_wp2
    go_ret
    exact ⟨⟨gw, b, by rw [← HB.out.1]; rfl, hgw, HW.out⟩, by first | exact below_drewN (Below.refl _ _) _ | exact (Below.refl _ _).drew | exact (below_drewN (Below.refl _ _) _).drew⟩
  · obtain rfl : k = 0 := by omega
    obtain rfl : b = 0 := hb0 rfl
    clear ce0 hb0
    go_wp2_with fail
    go_quiet (fail)
    go_wp2
    go_ret
    exact ⟨⟨gw, 0, by rw [← HB.out.1]; rfl, hgw, HW.out⟩, by first | exact below_drewN (Below.refl _ _) _ | exact (Below.refl _ _).drew | exact (below_drewN (Below.refl _ _) _).drew⟩
end Go.Proofs.YtamlhbjcokkmeaaGreatDoor
namespace Go.Proofs.YtamlhbjcokkmeaaGreatDoor
open Go.Shelf Go.RowKit
def renB : Go.Shelf.Ren := ⟨fun | 166 => 78 | 167 => 81 | 169 => 82 | 240 => 112 | 276 => 139 | n => n, fun | 0 => 0 | 3 => 3 | 4 => 4 | 5 => 5 | 9 => 9 | 20 => 20 | 37 => 102 | 70 => 127 | 72 => 129 | 75 => 131 | 164 => 199 | 80 => 72 | 127 => 171 | n => n, fun | n => n⟩
theorem laysWS : Go.Proofs.Lays.n166 Tryz.prog renB := {
  mixed := by kernel_rfl
  f166 := Tryz.func78.trans (congrArg some (by kernel_rfl))
  f240 := Tryz.func112.trans (congrArg some (by kernel_rfl))
  f276 := Tryz.func139.trans (congrArg some (by kernel_rfl))
  t0 := Tryz.underlying0
  a0 := Tryz.isAgg0
  z0 := Tryz.sizeOf0
  v0 := Tryz.zeroValue0
  t3 := Tryz.underlying3
  a3 := Tryz.isAgg3
  z3 := Tryz.sizeOf3
  v3 := Tryz.zeroValue3
  t4 := Tryz.underlying4
  a4 := Tryz.isAgg4
  z4 := Tryz.sizeOf4
  v4 := Tryz.zeroValue4
  t9 := Tryz.underlying9
  a9 := Tryz.isAgg9
  z9 := Tryz.sizeOf9
  v9 := Tryz.zeroValue9
  t20 := Tryz.underlying20
  a20 := Tryz.isAgg20
  z20 := Tryz.sizeOf20
  v20 := Tryz.zeroValue20
  t37 := Tryz.underlying102
  a37 := Tryz.isAgg102
  z37 := Tryz.sizeOf102
  v37 := Tryz.zeroValue102
  t70 := Tryz.underlying127
  a70 := Tryz.isAgg127
  z70 := Tryz.sizeOf127
  v70 := Tryz.zeroValue127
  t72 := Tryz.underlying129
  a72 := Tryz.isAgg129
  z72 := Tryz.sizeOf129
  v72 := Tryz.zeroValue129
  t75 := Tryz.underlying131
  a75 := Tryz.isAgg131
  z75 := Tryz.sizeOf131
  v75 := Tryz.zeroValue131
  t164 := Tryz.underlying199
  a164 := Tryz.isAgg199
  z164 := Tryz.sizeOf199
  v164 := Tryz.zeroValue199 }
theorem laysWB : Go.Proofs.Lays.n167 Tryz.prog renB := {
  mixed := by kernel_rfl
  f167 := Tryz.func81.trans (congrArg some (by kernel_rfl))
  f240 := Tryz.func112.trans (congrArg some (by kernel_rfl))
  f276 := Tryz.func139.trans (congrArg some (by kernel_rfl))
  t0 := Tryz.underlying0
  a0 := Tryz.isAgg0
  z0 := Tryz.sizeOf0
  v0 := Tryz.zeroValue0
  t4 := Tryz.underlying4
  a4 := Tryz.isAgg4
  z4 := Tryz.sizeOf4
  v4 := Tryz.zeroValue4
  t5 := Tryz.underlying5
  a5 := Tryz.isAgg5
  z5 := Tryz.sizeOf5
  v5 := Tryz.zeroValue5
  t9 := Tryz.underlying9
  a9 := Tryz.isAgg9
  z9 := Tryz.sizeOf9
  v9 := Tryz.zeroValue9
  t20 := Tryz.underlying20
  a20 := Tryz.isAgg20
  z20 := Tryz.sizeOf20
  v20 := Tryz.zeroValue20
  t37 := Tryz.underlying102
  a37 := Tryz.isAgg102
  z37 := Tryz.sizeOf102
  v37 := Tryz.zeroValue102
  t70 := Tryz.underlying127
  a70 := Tryz.isAgg127
  z70 := Tryz.sizeOf127
  v70 := Tryz.zeroValue127
  t72 := Tryz.underlying129
  a72 := Tryz.isAgg129
  z72 := Tryz.sizeOf129
  v72 := Tryz.zeroValue129
  t75 := Tryz.underlying131
  a75 := Tryz.isAgg131
  z75 := Tryz.sizeOf131
  v75 := Tryz.zeroValue131
  t164 := Tryz.underlying199
  a164 := Tryz.isAgg199
  z164 := Tryz.sizeOf199
  v164 := Tryz.zeroValue199 }
theorem laysSt : Go.Proofs.Lays.n169 Tryz.prog renB := {
  mixed := by kernel_rfl
  f169 := Tryz.func82.trans (congrArg some (by kernel_rfl))
  t0 := Tryz.underlying0
  a0 := Tryz.isAgg0
  z0 := Tryz.sizeOf0
  v0 := Tryz.zeroValue0
  t3 := Tryz.underlying3
  a3 := Tryz.isAgg3
  z3 := Tryz.sizeOf3
  v3 := Tryz.zeroValue3
  t9 := Tryz.underlying9
  a9 := Tryz.isAgg9
  z9 := Tryz.sizeOf9
  v9 := Tryz.zeroValue9
  t37 := Tryz.underlying102
  a37 := Tryz.isAgg102
  z37 := Tryz.sizeOf102
  v37 := Tryz.zeroValue102
  t70 := Tryz.underlying127
  a70 := Tryz.isAgg127
  z70 := Tryz.sizeOf127
  v70 := Tryz.zeroValue127
  t72 := Tryz.underlying129
  a72 := Tryz.isAgg129
  z72 := Tryz.sizeOf129
  v72 := Tryz.zeroValue129
  t127 := Tryz.underlying171
  a127 := Tryz.isAgg171
  z127 := Tryz.sizeOf171
  v127 := Tryz.zeroValue171 }
theorem extraB : Builder.Extra Tryz.prog renB where
  sizeBuilder := by kernel_rfl
  liesBuilder := by kernel_rfl
  t5 := Tryz.underlying5
  a5 := Tryz.isAgg5
  z5 := Tryz.sizeOf5
  v5 := Tryz.zeroValue5
  infoByte := by kernel_rfl
  cellsByte := by kernel_rfl
  sizeByte := by kernel_rfl
  neB5 := by decide
theorem writeByte_any (B b : Nat) (bs : List Value) (c : Int) (w : World) (h : Lib.IsBuilder 129 5 B b bs w) (hlen : bs.length + 1 ≤ 140737488355328) (hBw : B ≤ w.heap.size) :
    Calls Tryz.prog 81 #[.pointer (some ⟨b, 0, none⟩), .int .u8 c] w fun e w' => e = .returned .nilIface ∧ (Lib.BuilderAt 129 5 B b (.pointer (some ⟨b, 0, none⟩)) (bs ++ [.int .u8 c]) w' ∧ Below B w w') := Any.Builder_WriteByte laysWB extraB B b bs c w h hlen hBw
theorem writeString_any (B b : Nat) (bs : List Value) (s : ByteArray) (w : World) (h : Lib.IsBuilder 129 5 B b bs w) (hlen : bs.length + s.size ≤ 140737488355328) (hBw : B ≤ w.heap.size) :
    Calls Tryz.prog 78 #[.pointer (some ⟨b, 0, none⟩), .string s] w fun e w' => e = .returned (.tuple #[.int .i64 s.size, .nilIface]) ∧ (Lib.BuilderAt 129 5 B b (.pointer (some ⟨b, 0, none⟩)) (bs ++ Lib.strCells s) w' ∧ Below B w w') := Any.Builder_WriteString laysWS extraB B b bs s w h hlen hBw
theorem string_any (B b : Nat) (l : List UInt8) (w : World) (h : Lib.IsBuilder 129 5 B b (Lib.byteCells l) w) (hBw : B ≤ w.heap.size) :
    Calls Tryz.prog 82 #[.pointer (some ⟨b, 0, none⟩)] w fun e w' => e = .returned (.string ⟨l.toArray⟩) ∧ Below B w w' := Any.Builder_String_any laysSt extraB B b l w h hBw
end Go.Proofs.YtamlhbjcokkmeaaGreatDoor
namespace Go.Proofs.YtamlhbjcokkmeaaGreatDoor
open Go.Shelf Go.RowKit Go.Lib
def lays156_ren : Go.Shelf.Ren := ⟨fun | 156 => 79 | 165 => 113 | 166 => 78 | 169 => 82 | 240 => 112 | 241 => 140 | 276 => 139 | 277 => 162 | n => n, fun | 31 => 63 | 9 => 9 | 3 => 3 | 4 => 4 | 0 => 0 | 20 => 20 | 72 => 129 | 76 => 132 | 70 => 127 | 37 => 102 | 75 => 131 | 127 => 171 | 164 => 199 | 5 => 5 | 80 => 72 | n => n, fun | n => n⟩
theorem lays156 : Go.Proofs.Lays.n156 Tryz.prog lays156_ren := {
  mixed := by kernel_rfl
  f156 := Tryz.func79.trans (congrArg some (by kernel_rfl))
  f165 := Tryz.func113.trans (congrArg some (by kernel_rfl))
  f166 := Tryz.func78.trans (congrArg some (by kernel_rfl))
  f169 := Tryz.func82.trans (congrArg some (by kernel_rfl))
  f240 := Tryz.func112.trans (congrArg some (by kernel_rfl))
  f241 := Tryz.func140.trans (congrArg some (by kernel_rfl))
  f276 := Tryz.func139.trans (congrArg some (by kernel_rfl))
  f277 := Tryz.func162.trans (congrArg some (by kernel_rfl))
  t0 := Tryz.underlying0
  a0 := Tryz.isAgg0
  z0 := Tryz.sizeOf0
  v0 := Tryz.zeroValue0
  t3 := Tryz.underlying3
  a3 := Tryz.isAgg3
  z3 := Tryz.sizeOf3
  v3 := Tryz.zeroValue3
  t4 := Tryz.underlying4
  a4 := Tryz.isAgg4
  z4 := Tryz.sizeOf4
  v4 := Tryz.zeroValue4
  t9 := Tryz.underlying9
  a9 := Tryz.isAgg9
  z9 := Tryz.sizeOf9
  v9 := Tryz.zeroValue9
  t20 := Tryz.underlying20
  a20 := Tryz.isAgg20
  z20 := Tryz.sizeOf20
  v20 := Tryz.zeroValue20
  t31 := Tryz.underlying63
  a31 := Tryz.isAgg63
  z31 := Tryz.sizeOf63
  v31 := Tryz.zeroValue63
  t37 := Tryz.underlying102
  a37 := Tryz.isAgg102
  z37 := Tryz.sizeOf102
  v37 := Tryz.zeroValue102
  t70 := Tryz.underlying127
  a70 := Tryz.isAgg127
  z70 := Tryz.sizeOf127
  v70 := Tryz.zeroValue127
  t72 := Tryz.underlying129
  a72 := Tryz.isAgg129
  z72 := Tryz.sizeOf129
  v72 := Tryz.zeroValue129
  t75 := Tryz.underlying131
  a75 := Tryz.isAgg131
  z75 := Tryz.sizeOf131
  v75 := Tryz.zeroValue131
  t76 := Tryz.underlying132
  a76 := Tryz.isAgg132
  z76 := Tryz.sizeOf132
  v76 := Tryz.zeroValue132
  t127 := Tryz.underlying171
  a127 := Tryz.isAgg171
  z127 := Tryz.sizeOf171
  v127 := Tryz.zeroValue171
  t164 := Tryz.underlying199
  a164 := Tryz.isAgg199
  z164 := Tryz.sizeOf199
  v164 := Tryz.zeroValue199 }
theorem extraJ : Builder.Extra Tryz.prog lays156_ren := {
  sizeBuilder := by kernel_rfl
  liesBuilder := by kernel_rfl
  t5 := Tryz.underlying5
  a5 := Tryz.isAgg5
  z5 := Tryz.sizeOf5
  v5 := Tryz.zeroValue5
  infoByte := by kernel_rfl
  cellsByte := by kernel_rfl
  sizeByte := by kernel_rfl
  neB5 := by decide }
theorem join_any (bk o c : Nat) (xs : List ByteArray) (sep : ByteArray) (w : World) (hcells : ∀ (j : Nat) x, xs[j]? = some x → w.cell? ⟨bk, o + j, none⟩ = some (.string x)) (hbk : bk < w.heap.size) (hN : xs.length ≤ 140737488355328) (hcap : xs.length ≤ c) (hlen : (Lib.join (xs.map (·.data.toList)) sep.data.toList).length ≤ 140737488355328) :
    Calls Tryz.prog 79 #[.slice (some ⟨bk, o, none⟩) xs.length c, .string sep] w fun e w' => e = .returned (.string ⟨(Lib.join (xs.map (·.data.toList)) sep.data.toList).toArray⟩) ∧ Below w.heap.size w w' := Any.strings_Join lays156 extraJ bk o c xs sep w hcells hbk hN hcap hlen
end Go.Proofs.YtamlhbjcokkmeaaGreatDoor
namespace Go.Proofs.YtamlhbjcokkmeaaGreatDoor
open Go.ChangeShapes Go.WideShapes Go.ChangeAt Go.RowKit
theorem builderR_keep {T e B b : Nat} {p : Value} {bs : List Value} {W W' : World} (h : Lib.BuilderAt T e B b p bs W) (hb : Below W.heap.size W W') : Lib.BuilderAt T e B b p bs W' := by
  have hlt := h.lt
  obtain ⟨h1, v, h2, h3, h4⟩ := h
  have hg : W.grownBy W' none := ⟨hb.os, hb.tape, hb.output, hb.size, fun k hk _ => hb.block k hk⟩
  refine ⟨h1, v, (hb.block b hlt).trans h2, h3.kept hg ?_, h4⟩
  cases h1 : v.ownBlock
  · exact .inl rfl
  · exact .inr (by simp)
theorem isB_keep {T e B b : Nat} {bs : List Value} {W W' : World} (h : Lib.IsBuilder T e B b bs W) (hb : Below W.heap.size W W') : Lib.IsBuilder T e B b bs W' := h.imp (fun h => builderR_keep h hb) (fun h => builderR_keep h hb)
theorem byR_app (l m : List UInt8) : Lib.byteCells (l ++ m) = Lib.byteCells l ++ Lib.byteCells m := by simp [Lib.byteCells]
theorem byR_str (s : ByteArray) : Lib.strCells s = Lib.byteCells s.data.toList := rfl
theorem byR_len (l : List UInt8) : (Lib.byteCells l).length = l.length := by simp [Lib.byteCells]
theorem byR_ten : Lib.byteCells [10] = [.int .u8 10] := rfl
/-- The text of a row, and of rows. -/
def rowL (r : List ByteArray) : List UInt8 := Lib.join (r.map (·.data.toList)) [32] ++ [10]
def txR (rs : List (List ByteArray)) : List UInt8 := (rs.map rowL).flatten
theorem txR_app (a b : List (List ByteArray)) : txR (a ++ b) = txR a ++ txR b := by simp [txR]
theorem txR_next {rs : List (List ByteArray)} {k : Nat} {r : List ByteArray} (h : rs[k]? = some r) : txR (rs.take (k + 1)) = txR (rs.take k) ++ rowL r := by
  rw [List.take_add_one, h, txR_app]
  simp [txR]
theorem txR_take (rs : List (List ByteArray)) (k : Nat) : (txR (rs.take k)).length ≤ (txR rs).length := by
  have : txR rs = txR (rs.take k) ++ txR (rs.drop k) := by rw [← txR_app, List.take_append_drop]
  rw [this, List.length_append]
  omega
set_option maxHeartbeats 8000000 in
theorem text_any (n0 R : Nat) (wv ev : Value) (rs : List (List ByteArray)) (w : World) (h : Rep n0 R w wv ev rs) (hr0 : ∀ r ∈ rs, 0 < r.length) (hl : rs.flatten.length ≤ 1000000) (hr : rs.length ≤ 1000000) (hx : (txR rs).length ≤ 100000000000) :
    Calls Tryz.prog 32 #[.pointer (some ⟨R, 0, none⟩)] w fun e w' => e = .returned (.string ⟨(txR rs).toArray⟩) ∧ Below w.heap.size w w' := by
  obtain ⟨A1, C1, rfl⟩ := own_form h.ends
  obtain ⟨W0, hW0⟩ : ∃ W0, w.alloc (.cells #[.pointer none, .slice none 0 0] 129) = W0 := ⟨_, rfl⟩
  have hb0 : Below w.heap.size w W0 := by rw [← hW0]; exact (Below.refl _ _).alloc (Nat.le_refl _) _
  have hI : Lib.IsBuilder 129 5 w.heap.size w.heap.size [] W0 := by rw [← hW0]; exact .inl ⟨Nat.le_refl _, .slice none 0 0, World.alloc_heap_new w _, World.ownsRow_nil _ _ _ _, by simp [Value.ownBlock]⟩
  have HH : Hid (Rep n0 R w wv (.slice A1 rs.length C1) rs ∧ (∀ r ∈ rs, 0 < r.length)) := ⟨h, hr0⟩
  have H0 : Hid (Lib.IsBuilder 129 5 w.heap.size w.heap.size [] W0 ∧ Below w.heap.size w W0) := ⟨hI, hb0⟩
  obtain ⟨_, k1, _, _⟩ := rp_box (h.below hb0).box
  clear h hr0 hI hb0
  go_enter Tryz.func32, Tryz.ntmps32
  go_upto_region 2 with fail
  try rw [hW0]
  clear hW0
  go_wp2_with fail
  go_loopw [10] (fun i wr => ∃ k : Nat, i = .int .i64 (k : Int) ∧ k ≤ rs.length ∧ Lib.IsBuilder 129 5 w.heap.size w.heap.size (Lib.byteCells (txR (rs.take k))) wr ∧ Below w.heap.size w wr) (fun i _ => rs.length - (intOf i).toNat)
  case atStart => exact ⟨0, rfl, by omega, by simpa [txR, Lib.byteCells] using H0.out.1, H0.out.2⟩
  case round =>
    obtain ⟨k, rfl, hk, hB, hb⟩ := hrel
    have ht := txR_take rs k
    by_cases hlt : k < rs.length
    · have hlt' : (k : Int) < (rs.length : Int) := by omega
      obtain ⟨r, hs⟩ : ∃ r, rs[k]? = some r := ⟨_, List.getElem?_eq_getElem hlt⟩
      have hr1 := HH.out.2 r (List.mem_of_getElem? hs)
      have hn := txR_next hs
      have ht1 := txR_take rs (k + 1)
      rw [hn, List.length_append] at ht1
      have hrl : (rowL r).length = (Lib.join (r.map (·.data.toList)) [32]).length + 1 := by simp [rowL]
      have HB : Hid (Lib.IsBuilder 129 5 w.heap.size w.heap.size (Lib.byteCells (txR (rs.take k))) wr ∧ Below w.heap.size w wr ∧ Rep n0 R wr wv (.slice A1 rs.length C1) rs ∧ txR (rs.take (k + 1)) = txR (rs.take k) ++ rowL r ∧ rs[k]? = some r) := ⟨hB, hb, HH.out.1.below hb, hn, hs⟩
      have hrs : r.length ≤ 1000000 := by
        have h1 := take_flat rs (k + 1)
        rw [flat_next hs, List.length_append] at h1
        omega
      clear hB hb hs hn
      go_wp2_with fail
      refine (row_any n0 R k wv _ rs r _ HB.out.2.2.1 HB.out.2.2.2.2 hr1 hl hr).mono ?_
      rintro e w1 ⟨⟨g, o, rfl, hg, hc⟩, hb1⟩
      have H1 : Hid (Lib.IsBuilder 129 5 w.heap.size w.heap.size (Lib.byteCells (txR (rs.take k))) w1 ∧ Below w.heap.size w w1 ∧ g < w1.heap.size ∧ ∀ (j : Nat) (t : ByteArray), r[j]? = some t → w1.cell? ⟨g, o + j, none⟩ = some (.string t)) := ⟨isB_keep HB.out.1 hb1, HB.out.2.1.trans (hb1.mono HB.out.2.1.size), by have := hb1.size; omega, fun j t hj => (hb1.cell (p := ⟨g, o + j, none⟩) (cell_lt (hc j t hj))).trans (hc j t hj)⟩
      clear hg hc hb1
      go_wp2_with fail
      refine (join_any g o r.length r ⟨#[32]⟩ _ H1.out.2.2.2 H1.out.2.2.1 (by omega) (Nat.le_refl _) (by show (Lib.join (r.map (·.data.toList)) [32]).length ≤ _; omega)).mono ?_
      rintro e w2 ⟨rfl, hb2⟩
      have H2 : Hid (Lib.IsBuilder 129 5 w.heap.size w.heap.size (Lib.byteCells (txR (rs.take k))) w2 ∧ Below w.heap.size w w2) := ⟨isB_keep H1.out.1 hb2, H1.out.2.1.trans (hb2.mono H1.out.2.1.size)⟩
      clear hb2
      obtain ⟨jt, hjt⟩ : ∃ jt : ByteArray, jt = ⟨(Lib.join (r.map (·.data.toList)) (⟨#[32]⟩ : ByteArray).data.toList).toArray⟩ := ⟨_, rfl⟩
      rw [← hjt]
      have HJ : Hid (jt.data.toList = Lib.join (r.map (·.data.toList)) [32]) := by show _ = _; rw [hjt]
      have hjs : jt.size + 1 = (rowL r).length := by rw [hrl, ← HJ.out]; rfl
      clear hjt
      go_wp2_with fail
      refine (writeString_any w.heap.size w.heap.size _ jt _ H2.out.1 (by rw [byR_len]; omega) H2.out.2.size).mono ?_
      rintro e w3 ⟨rfl, hB3, hb3⟩
      rw [byR_str, ← byR_app] at hB3
      have H3 : Hid (Lib.BuilderAt 129 5 w.heap.size w.heap.size (.pointer (some ⟨w.heap.size, 0, none⟩)) (Lib.byteCells (txR (rs.take k) ++ jt.data.toList)) w3 ∧ Below w.heap.size w w3) := ⟨hB3, H2.out.2.trans hb3⟩
      clear hB3 hb3
      go_wp2_with fail
      refine (writeByte_any w.heap.size w.heap.size _ 10 _ (.inr H3.out.1) (by rw [byR_len, List.length_append]; show _ + jt.size + 1 ≤ _; omega) H3.out.2.size).mono ?_
      rintro e w4 ⟨rfl, hB4, hb4⟩
      rw [← byR_ten, ← byR_app] at hB4
      have H4 : Hid (Lib.BuilderAt 129 5 w.heap.size w.heap.size (.pointer (some ⟨w.heap.size, 0, none⟩)) (Lib.byteCells (txR (rs.take (k + 1)))) w4 ∧ Below w.heap.size w w4) := ⟨by rw [HB.out.2.2.2.1]; unfold rowL; rw [← List.append_assoc, ← HJ.out]; exact hB4, H3.out.2.trans hb4⟩
      clear hB4 hb4
      go_wp2
      go_roundw
      case rel => exact ⟨k + 1, by go_num, by omega, .inr H4.out.1, H4.out.2⟩
      case measure => simp [intOf]; omega
    · obtain rfl : k = rs.length := by omega
      rw [List.take_length] at hB
      have HB : Hid (Lib.IsBuilder 129 5 w.heap.size w.heap.size (Lib.byteCells (txR rs)) wr ∧ Below w.heap.size w wr) := ⟨hB, hb⟩
      clear hB hb
      go_wp2_with fail
      refine (string_any w.heap.size w.heap.size _ _ HB.out.1 HB.out.2.size).mono ?_
      rintro e w6 ⟨rfl, hb6⟩
      have H6 : Hid (Below w.heap.size w w6) := HB.out.2.trans hb6
      clear hb6
      go_wp2
      go_ret
      exact ⟨rfl, H6.out⟩
end Go.Proofs.YtamlhbjcokkmeaaGreatDoor
