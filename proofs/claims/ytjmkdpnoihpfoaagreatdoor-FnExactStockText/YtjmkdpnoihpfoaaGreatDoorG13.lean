/- Texts of ours put together: ShJoin, RpT. -/
import Derived.Shelf.Strings.OnBuilder
import Derived.Test.YtjmkdpnoihpfoaaGreatDoorRows
import Derived.Test.YtjmkdpnoihpfoaaGreatDoorG12
namespace Go.Proofs.YtjmkdpnoihpfoaaGreatDoor
open Go.Shelf Go.RowKit Go.Lib
def lays156_ren : Go.Shelf.Ren := ⟨fun | 156 => 44 | 165 => 61 | 166 => 43 | 169 => 47 | 240 => 60 | 241 => 73 | 276 => 72 | 277 => 92 | n => n, fun | 31 => 38 | 9 => 9 | 3 => 3 | 4 => 4 | 0 => 0 | 20 => 20 | 72 => 77 | 76 => 80 | 70 => 75 | 37 => 62 | 75 => 79 | 127 => 94 | 164 => 103 | 5 => 5 | 80 => 49 | n => n, fun | n => n⟩
theorem lays156 : Go.Proofs.Lays.n156 Tryz.prog lays156_ren := {
  mixed := by kernel_rfl
  f156 := Tryz.func44.trans (congrArg some (by kernel_rfl))
  f165 := Tryz.func61.trans (congrArg some (by kernel_rfl))
  f166 := Tryz.func43.trans (congrArg some (by kernel_rfl))
  f169 := Tryz.func47.trans (congrArg some (by kernel_rfl))
  f240 := Tryz.func60.trans (congrArg some (by kernel_rfl))
  f241 := Tryz.func73.trans (congrArg some (by kernel_rfl))
  f276 := Tryz.func72.trans (congrArg some (by kernel_rfl))
  f277 := Tryz.func92.trans (congrArg some (by kernel_rfl))
  t0 := Tryz.underlying0
  a0 := Tryz.isAgg0
  z0 := Tryz.sizeOf0
  v0 := Tryz.zeroValue0
  t3 := Tryz.underlying3
  a3 := Tryz.isAgg3
  z3 := Tryz.sizeOf3
  v3 := Tryz.zeroValue3
  t4 := Tryz.underlying4
  a4 := Tryz.isAgg4
  z4 := Tryz.sizeOf4
  v4 := Tryz.zeroValue4
  t9 := Tryz.underlying9
  a9 := Tryz.isAgg9
  z9 := Tryz.sizeOf9
  v9 := Tryz.zeroValue9
  t20 := Tryz.underlying20
  a20 := Tryz.isAgg20
  z20 := Tryz.sizeOf20
  v20 := Tryz.zeroValue20
  t31 := Tryz.underlying38
  a31 := Tryz.isAgg38
  z31 := Tryz.sizeOf38
  v31 := Tryz.zeroValue38
  t37 := Tryz.underlying62
  a37 := Tryz.isAgg62
  z37 := Tryz.sizeOf62
  v37 := Tryz.zeroValue62
  t70 := Tryz.underlying75
  a70 := Tryz.isAgg75
  z70 := Tryz.sizeOf75
  v70 := Tryz.zeroValue75
  t72 := Tryz.underlying77
  a72 := Tryz.isAgg77
  z72 := Tryz.sizeOf77
  v72 := Tryz.zeroValue77
  t75 := Tryz.underlying79
  a75 := Tryz.isAgg79
  z75 := Tryz.sizeOf79
  v75 := Tryz.zeroValue79
  t76 := Tryz.underlying80
  a76 := Tryz.isAgg80
  z76 := Tryz.sizeOf80
  v76 := Tryz.zeroValue80
  t127 := Tryz.underlying94
  a127 := Tryz.isAgg94
  z127 := Tryz.sizeOf94
  v127 := Tryz.zeroValue94
  t164 := Tryz.underlying103
  a164 := Tryz.isAgg103
  z164 := Tryz.sizeOf103
  v164 := Tryz.zeroValue103 }
theorem extraJ : Builder.Extra Tryz.prog lays156_ren := {
  sizeBuilder := by kernel_rfl
  liesBuilder := by kernel_rfl
  t5 := Tryz.underlying5
  a5 := Tryz.isAgg5
  z5 := Tryz.sizeOf5
  v5 := Tryz.zeroValue5
  infoByte := by kernel_rfl
  cellsByte := by kernel_rfl
  sizeByte := by kernel_rfl
  neB5 := by decide }
theorem join_any (bk o c : Nat) (xs : List ByteArray) (sep : ByteArray) (w : World) (hcells : ∀ (j : Nat) x, xs[j]? = some x → w.cell? ⟨bk, o + j, none⟩ = some (.string x)) (hbk : bk < w.heap.size) (hN : xs.length ≤ 140737488355328) (hcap : xs.length ≤ c) (hlen : (Lib.join (xs.map (·.data.toList)) sep.data.toList).length ≤ 140737488355328) :
    Calls Tryz.prog 44 #[.slice (some ⟨bk, o, none⟩) xs.length c, .string sep] w fun e w' => e = .returned (.string ⟨(Lib.join (xs.map (·.data.toList)) sep.data.toList).toArray⟩) ∧ Below w.heap.size w w' := Any.strings_Join lays156 extraJ bk o c xs sep w hcells hbk hN hcap hlen
end Go.Proofs.YtjmkdpnoihpfoaaGreatDoor
namespace Go.Proofs.YtjmkdpnoihpfoaaGreatDoor
open Go.ChangeShapes Go.WideShapes Go.ChangeAt Go.RowKit
theorem builderR_keep {T e B b : Nat} {p : Value} {bs : List Value} {W W' : World} (h : Lib.BuilderAt T e B b p bs W) (hb : Below W.heap.size W W') : Lib.BuilderAt T e B b p bs W' := by
  have hlt := h.lt
  obtain ⟨h1, v, h2, h3, h4⟩ := h
  have hg : W.grownBy W' none := ⟨hb.os, hb.tape, hb.output, hb.size, fun k hk _ => hb.block k hk⟩
  refine ⟨h1, v, (hb.block b hlt).trans h2, h3.kept hg ?_, h4⟩
  cases h1 : v.ownBlock
  · exact .inl rfl
  · exact .inr (by simp)
theorem isB_keep {T e B b : Nat} {bs : List Value} {W W' : World} (h : Lib.IsBuilder T e B b bs W) (hb : Below W.heap.size W W') : Lib.IsBuilder T e B b bs W' := h.imp (fun h => builderR_keep h hb) (fun h => builderR_keep h hb)
theorem byR_app (l m : List UInt8) : Lib.byteCells (l ++ m) = Lib.byteCells l ++ Lib.byteCells m := by simp [Lib.byteCells]
theorem byR_str (s : ByteArray) : Lib.strCells s = Lib.byteCells s.data.toList := rfl
theorem byR_len (l : List UInt8) : (Lib.byteCells l).length = l.length := by simp [Lib.byteCells]
theorem byR_ten : Lib.byteCells [10] = [.int .u8 10] := rfl
/-- The text of a row, and of rows. -/
def rowL (r : List ByteArray) : List UInt8 := Lib.join (r.map (·.data.toList)) [32] ++ [10]
def txR (rs : List (List ByteArray)) : List UInt8 := (rs.map rowL).flatten
theorem txR_app (a b : List (List ByteArray)) : txR (a ++ b) = txR a ++ txR b := by simp [txR]
theorem txR_next {rs : List (List ByteArray)} {k : Nat} {r : List ByteArray} (h : rs[k]? = some r) : txR (rs.take (k + 1)) = txR (rs.take k) ++ rowL r := by
  rw [List.take_add_one, h, txR_app]
  simp [txR]
theorem txR_take (rs : List (List ByteArray)) (k : Nat) : (txR (rs.take k)).length ≤ (txR rs).length := by
  have : txR rs = txR (rs.take k) ++ txR (rs.drop k) := by rw [← txR_app, List.take_append_drop]
  rw [this, List.length_append]
  omega
set_option maxHeartbeats 8000000 in
theorem text_any (n0 R : Nat) (wv ev : Value) (rs : List (List ByteArray)) (w : World) (h : Rep n0 R w wv ev rs) (hr0 : ∀ r ∈ rs, 0 < r.length) (hl : rs.flatten.length ≤ 1000000) (hr : rs.length ≤ 1000000) (hx : (txR rs).length ≤ 100000000000) :
    Calls Tryz.prog 21 #[.pointer (some ⟨R, 0, none⟩)] w fun e w' => e = .returned (.string ⟨(txR rs).toArray⟩) ∧ Below w.heap.size w w' := by
  obtain ⟨A1, C1, rfl⟩ := own_form h.ends
  obtain ⟨W0, hW0⟩ : ∃ W0, w.alloc (.cells #[.pointer none, .slice none 0 0] 77) = W0 := ⟨_, rfl⟩
  have hb0 : Below w.heap.size w W0 := by rw [← hW0]; exact (Below.refl _ _).alloc (Nat.le_refl _) _
  have hI : Lib.IsBuilder 77 5 w.heap.size w.heap.size [] W0 := by rw [← hW0]; exact .inl ⟨Nat.le_refl _, .slice none 0 0, World.alloc_heap_new w _, World.ownsRow_nil _ _ _ _, by simp [Value.ownBlock]⟩
  have HH : Hid (Rep n0 R w wv (.slice A1 rs.length C1) rs ∧ (∀ r ∈ rs, 0 < r.length)) := ⟨h, hr0⟩
  have H0 : Hid (Lib.IsBuilder 77 5 w.heap.size w.heap.size [] W0 ∧ Below w.heap.size w W0) := ⟨hI, hb0⟩
  obtain ⟨_, k1, _, _⟩ := rp_box (h.below hb0).box
  clear h hr0 hI hb0
  go_enter Tryz.func21, Tryz.ntmps21
  go_upto_region 2 with fail
  try rw [hW0]
  clear hW0
  go_wp2_with fail
  go_loopw [10] (fun i wr => ∃ k : Nat, i = .int .i64 (k : Int) ∧ k ≤ rs.length ∧ Lib.IsBuilder 77 5 w.heap.size w.heap.size (Lib.byteCells (txR (rs.take k))) wr ∧ Below w.heap.size w wr) (fun i _ => rs.length - (intOf i).toNat)
  case atStart => exact ⟨0, rfl, by omega, by simpa [txR, Lib.byteCells] using H0.out.1, H0.out.2⟩
  case round =>
    obtain ⟨k, rfl, hk, hB, hb⟩ := hrel
    have ht := txR_take rs k
    by_cases hlt : k < rs.length
    · have hlt' : (k : Int) < (rs.length : Int) := by omega
      obtain ⟨r, hs⟩ : ∃ r, rs[k]? = some r := ⟨_, List.getElem?_eq_getElem hlt⟩
      have hr1 := HH.out.2 r (List.mem_of_getElem? hs)
      have hn := txR_next hs
      have ht1 := txR_take rs (k + 1)
      rw [hn, List.length_append] at ht1
      have hrl : (rowL r).length = (Lib.join (r.map (·.data.toList)) [32]).length + 1 := by simp [rowL]
      have HB : Hid (Lib.IsBuilder 77 5 w.heap.size w.heap.size (Lib.byteCells (txR (rs.take k))) wr ∧ Below w.heap.size w wr ∧ Rep n0 R wr wv (.slice A1 rs.length C1) rs ∧ txR (rs.take (k + 1)) = txR (rs.take k) ++ rowL r ∧ rs[k]? = some r) := ⟨hB, hb, HH.out.1.below hb, hn, hs⟩
      have hrs : r.length ≤ 1000000 := by
        have h1 := take_flat rs (k + 1)
        rw [flat_next hs, List.length_append] at h1
        omega
      clear hB hb hs hn
      go_wp2_with fail
      refine (row_any n0 R k wv _ rs r _ HB.out.2.2.1 HB.out.2.2.2.2 hr1 hl hr).mono ?_
      rintro e w1 ⟨⟨g, o, rfl, hg, hc⟩, hb1⟩
      have H1 : Hid (Lib.IsBuilder 77 5 w.heap.size w.heap.size (Lib.byteCells (txR (rs.take k))) w1 ∧ Below w.heap.size w w1 ∧ g < w1.heap.size ∧ ∀ (j : Nat) (t : ByteArray), r[j]? = some t → w1.cell? ⟨g, o + j, none⟩ = some (.string t)) := ⟨isB_keep HB.out.1 hb1, HB.out.2.1.trans (hb1.mono HB.out.2.1.size), by have := hb1.size; omega, fun j t hj => (hb1.cell (p := ⟨g, o + j, none⟩) (cell_lt (hc j t hj))).trans (hc j t hj)⟩
      clear hg hc hb1
      go_wp2_with fail
      refine (join_any g o r.length r ⟨#[32]⟩ _ H1.out.2.2.2 H1.out.2.2.1 (by omega) (Nat.le_refl _) (by show (Lib.join (r.map (·.data.toList)) [32]).length ≤ _; omega)).mono ?_
      rintro e w2 ⟨rfl, hb2⟩
      have H2 : Hid (Lib.IsBuilder 77 5 w.heap.size w.heap.size (Lib.byteCells (txR (rs.take k))) w2 ∧ Below w.heap.size w w2) := ⟨isB_keep H1.out.1 hb2, H1.out.2.1.trans (hb2.mono H1.out.2.1.size)⟩
      clear hb2
      obtain ⟨jt, hjt⟩ : ∃ jt : ByteArray, jt = ⟨(Lib.join (r.map (·.data.toList)) (⟨#[32]⟩ : ByteArray).data.toList).toArray⟩ := ⟨_, rfl⟩
      rw [← hjt]
      have HJ : Hid (jt.data.toList = Lib.join (r.map (·.data.toList)) [32]) := by show _ = _; rw [hjt]
      have hjs : jt.size + 1 = (rowL r).length := by rw [hrl, ← HJ.out]; rfl
      clear hjt
      go_wp2_with fail
      refine (writeString_any w.heap.size w.heap.size _ jt _ H2.out.1 (by rw [byR_len]; omega) H2.out.2.size).mono ?_
      rintro e w3 ⟨rfl, hB3, hb3⟩
      rw [byR_str, ← byR_app] at hB3
      have H3 : Hid (Lib.BuilderAt 77 5 w.heap.size w.heap.size (.pointer (some ⟨w.heap.size, 0, none⟩)) (Lib.byteCells (txR (rs.take k) ++ jt.data.toList)) w3 ∧ Below w.heap.size w w3) := ⟨hB3, H2.out.2.trans hb3⟩
      clear hB3 hb3
      go_wp2_with fail
      refine (writeByte_any w.heap.size w.heap.size _ 10 _ (.inr H3.out.1) (by rw [byR_len, List.length_append]; show _ + jt.size + 1 ≤ _; omega) H3.out.2.size).mono ?_
      rintro e w4 ⟨rfl, hB4, hb4⟩
      rw [← byR_ten, ← byR_app] at hB4
      have H4 : Hid (Lib.BuilderAt 77 5 w.heap.size w.heap.size (.pointer (some ⟨w.heap.size, 0, none⟩)) (Lib.byteCells (txR (rs.take (k + 1)))) w4 ∧ Below w.heap.size w w4) := ⟨by rw [HB.out.2.2.2.1]; unfold rowL; rw [← List.append_assoc, ← HJ.out]; exact hB4, H3.out.2.trans hb4⟩
      clear hB4 hb4
      go_wp2
      go_roundw
      case rel => exact ⟨k + 1, by go_num, by omega, .inr H4.out.1, H4.out.2⟩
      case measure => simp [intOf]; omega
    · obtain rfl : k = rs.length := by omega
      rw [List.take_length] at hB
      have HB : Hid (Lib.IsBuilder 77 5 w.heap.size w.heap.size (Lib.byteCells (txR rs)) wr ∧ Below w.heap.size w wr) := ⟨hB, hb⟩
      clear hB hb
      go_wp2_with fail
      refine (string_any w.heap.size w.heap.size _ _ HB.out.1 HB.out.2.size).mono ?_
      rintro e w6 ⟨rfl, hb6⟩
      have H6 : Hid (Below w.heap.size w w6) := HB.out.2.trans hb6
      clear hb6
      go_wp2
      go_ret
      exact ⟨rfl, H6.out⟩
end Go.Proofs.YtjmkdpnoihpfoaaGreatDoor
