/- Contract of the report's text. -/
import Derived.Test.YtndammnilopfaaaDoorRpR
import Derived.Test.YtndammnilopfaaaDoorShBuildR
import Derived.Test.YtndammnilopfaaaDoorShJoin
namespace Go.Proofs.YtndammnilopfaaaDoor
open Go.ChangeShapes Go.WideShapes Go.ChangeAt Go.RowKit
theorem builderR_keep {T e B b : Nat} {p : Value} {bs : List Value} {W W' : World} (h : Lib.BuilderAt T e B b p bs W) (hb : Below W.heap.size W W') : Lib.BuilderAt T e B b p bs W' := by
  have hlt := h.lt
  obtain ⟨h1, v, h2, h3, h4⟩ := h
  have hg : W.grownBy W' none := ⟨hb.os, hb.tape, hb.output, hb.size, fun k hk _ => hb.block k hk⟩
  refine ⟨h1, v, (hb.block b hlt).trans h2, h3.kept hg ?_, h4⟩
  cases h1 : v.ownBlock
  · exact .inl rfl
  · exact .inr (by simp)
theorem isB_keep {T e B b : Nat} {bs : List Value} {W W' : World} (h : Lib.IsBuilder T e B b bs W) (hb : Below W.heap.size W W') : Lib.IsBuilder T e B b bs W' := h.imp (fun h => builderR_keep h hb) (fun h => builderR_keep h hb)
theorem byR_app (l m : List UInt8) : Lib.byteCells (l ++ m) = Lib.byteCells l ++ Lib.byteCells m := by simp [Lib.byteCells]
theorem byR_str (s : ByteArray) : Lib.strCells s = Lib.byteCells s.data.toList := rfl
theorem byR_len (l : List UInt8) : (Lib.byteCells l).length = l.length := by simp [Lib.byteCells]
theorem byR_ten : Lib.byteCells [10] = [.int .u8 10] := rfl
/-- The text of a row, and of rows. -/
def rowL (r : List ByteArray) : List UInt8 := Lib.join (r.map (·.data.toList)) [32] ++ [10]
def txR (rs : List (List ByteArray)) : List UInt8 := (rs.map rowL).flatten
theorem txR_app (a b : List (List ByteArray)) : txR (a ++ b) = txR a ++ txR b := by simp [txR]
theorem txR_next {rs : List (List ByteArray)} {k : Nat} {r : List ByteArray} (h : rs[k]? = some r) : txR (rs.take (k + 1)) = txR (rs.take k) ++ rowL r := by
  rw [List.take_add_one, h, txR_app]
  simp [txR]
theorem txR_take (rs : List (List ByteArray)) (k : Nat) : (txR (rs.take k)).length ≤ (txR rs).length := by
  have : txR rs = txR (rs.take k) ++ txR (rs.drop k) := by rw [← txR_app, List.take_append_drop]
  rw [this, List.length_append]
  omega
set_option maxHeartbeats 8000000 in
theorem text_any (n0 R : Nat) (wv ev : Value) (rs : List (List ByteArray)) (w : World) (h : Rep n0 R w wv ev rs) (hr0 : ∀ r ∈ rs, 0 < r.length) (hl : rs.flatten.length ≤ 1000000) (hr : rs.length ≤ 1000000) (hx : (txR rs).length ≤ 100000000000) :
    Calls Tryd.prog 23 #[.pointer (some ⟨R, 0, none⟩)] w fun e w' => e = .returned (.string ⟨(txR rs).toArray⟩) ∧ Below w.heap.size w w' := by
  obtain ⟨A1, C1, rfl⟩ := own_form h.ends
  obtain ⟨W0, hW0⟩ : ∃ W0, w.alloc (.cells #[.pointer none, .slice none 0 0] 87) = W0 := ⟨_, rfl⟩
  have hb0 : Below w.heap.size w W0 := by rw [← hW0]; exact (Below.refl _ _).alloc (Nat.le_refl _) _
  have hI : Lib.IsBuilder 87 5 w.heap.size w.heap.size [] W0 := by rw [← hW0]; exact .inl ⟨Nat.le_refl _, .slice none 0 0, World.alloc_heap_new w _, World.ownsRow_nil _ _ _ _, by simp [Value.ownBlock]⟩
  have HH : Hid (Rep n0 R w wv (.slice A1 rs.length C1) rs ∧ (∀ r ∈ rs, 0 < r.length)) := ⟨h, hr0⟩
  have H0 : Hid (Lib.IsBuilder 87 5 w.heap.size w.heap.size [] W0 ∧ Below w.heap.size w W0) := ⟨hI, hb0⟩
  obtain ⟨_, k1, _, _⟩ := rp_box (h.below hb0).box
  clear h hr0 hI hb0
  go_enter Tryd.func23, Tryd.ntmps23
  go_upto_region 2 with fail
  try rw [hW0]
  clear hW0
  go_wp2_with fail
  go_loopw [10] (fun i wr => ∃ k : Nat, i = .int .i64 (k : Int) ∧ k ≤ rs.length ∧ Lib.IsBuilder 87 5 w.heap.size w.heap.size (Lib.byteCells (txR (rs.take k))) wr ∧ Below w.heap.size w wr) (fun i _ => rs.length - (intOf i).toNat)
  case atStart => exact ⟨0, rfl, by omega, by simpa [txR, Lib.byteCells] using H0.out.1, H0.out.2⟩
  case round =>
    obtain ⟨k, rfl, hk, hB, hb⟩ := hrel
    have ht := txR_take rs k
    by_cases hlt : k < rs.length
    · have hlt' : (k : Int) < (rs.length : Int) := by omega
      obtain ⟨r, hs⟩ : ∃ r, rs[k]? = some r := ⟨_, List.getElem?_eq_getElem hlt⟩
      have hr1 := HH.out.2 r (List.mem_of_getElem? hs)
      have hn := txR_next hs
      have ht1 := txR_take rs (k + 1)
      rw [hn, List.length_append] at ht1
      have hrl : (rowL r).length = (Lib.join (r.map (·.data.toList)) [32]).length + 1 := by simp [rowL]
      have HB : Hid (Lib.IsBuilder 87 5 w.heap.size w.heap.size (Lib.byteCells (txR (rs.take k))) wr ∧ Below w.heap.size w wr ∧ Rep n0 R wr wv (.slice A1 rs.length C1) rs ∧ txR (rs.take (k + 1)) = txR (rs.take k) ++ rowL r ∧ rs[k]? = some r) := ⟨hB, hb, HH.out.1.below hb, hn, hs⟩
      have hrs : r.length ≤ 1000000 := by
        have h1 := take_flat rs (k + 1)
        rw [flat_next hs, List.length_append] at h1
        omega
      clear hB hb hs hn
      go_wp2_with fail
      refine (row_any n0 R k wv _ rs r _ HB.out.2.2.1 HB.out.2.2.2.2 hr1 hl hr).mono ?_
      rintro e w1 ⟨⟨g, o, rfl, hg, hc⟩, hb1⟩
      have H1 : Hid (Lib.IsBuilder 87 5 w.heap.size w.heap.size (Lib.byteCells (txR (rs.take k))) w1 ∧ Below w.heap.size w w1 ∧ g < w1.heap.size ∧ ∀ (j : Nat) (t : ByteArray), r[j]? = some t → w1.cell? ⟨g, o + j, none⟩ = some (.string t)) := ⟨isB_keep HB.out.1 hb1, HB.out.2.1.trans (hb1.mono HB.out.2.1.size), by have := hb1.size; omega, fun j t hj => (hb1.cell (p := ⟨g, o + j, none⟩) (cell_lt (hc j t hj))).trans (hc j t hj)⟩
      clear hg hc hb1
      go_wp2_with fail
      refine (join_any g o r.length r ⟨#[32]⟩ _ H1.out.2.2.2 H1.out.2.2.1 (by omega) (Nat.le_refl _) (by show (Lib.join (r.map (·.data.toList)) [32]).length ≤ _; omega)).mono ?_
      rintro e w2 ⟨rfl, hb2⟩
      have H2 : Hid (Lib.IsBuilder 87 5 w.heap.size w.heap.size (Lib.byteCells (txR (rs.take k))) w2 ∧ Below w.heap.size w w2) := ⟨isB_keep H1.out.1 hb2, H1.out.2.1.trans (hb2.mono H1.out.2.1.size)⟩
      clear hb2
      obtain ⟨jt, hjt⟩ : ∃ jt : ByteArray, jt = ⟨(Lib.join (r.map (·.data.toList)) (⟨#[32]⟩ : ByteArray).data.toList).toArray⟩ := ⟨_, rfl⟩
      rw [← hjt]
      have HJ : Hid (jt.data.toList = Lib.join (r.map (·.data.toList)) [32]) := by show _ = _; rw [hjt]
      have hjs : jt.size + 1 = (rowL r).length := by rw [hrl, ← HJ.out]; rfl
      clear hjt
      go_wp2_with fail
      refine (writeString_any w.heap.size w.heap.size _ jt _ H2.out.1 (by rw [byR_len]; omega) H2.out.2.size).mono ?_
      rintro e w3 ⟨rfl, hB3, hb3⟩
      rw [byR_str, ← byR_app] at hB3
      have H3 : Hid (Lib.BuilderAt 87 5 w.heap.size w.heap.size (.pointer (some ⟨w.heap.size, 0, none⟩)) (Lib.byteCells (txR (rs.take k) ++ jt.data.toList)) w3 ∧ Below w.heap.size w w3) := ⟨hB3, H2.out.2.trans hb3⟩
      clear hB3 hb3
      go_wp2_with fail
      refine (writeByte_any w.heap.size w.heap.size _ 10 _ (.inr H3.out.1) (by rw [byR_len, List.length_append]; show _ + jt.size + 1 ≤ _; omega) H3.out.2.size).mono ?_
      rintro e w4 ⟨rfl, hB4, hb4⟩
      rw [← byR_ten, ← byR_app] at hB4
      have H4 : Hid (Lib.BuilderAt 87 5 w.heap.size w.heap.size (.pointer (some ⟨w.heap.size, 0, none⟩)) (Lib.byteCells (txR (rs.take (k + 1)))) w4 ∧ Below w.heap.size w w4) := ⟨by rw [HB.out.2.2.2.1]; unfold rowL; rw [← List.append_assoc, ← HJ.out]; exact hB4, H3.out.2.trans hb4⟩
      clear hB4 hb4
      go_wp2
      go_roundw
      case rel => exact ⟨k + 1, by go_num, by omega, .inr H4.out.1, H4.out.2⟩
      case measure => simp [intOf]; omega
    · obtain rfl : k = rs.length := by omega
      rw [List.take_length] at hB
      have HB : Hid (Lib.IsBuilder 87 5 w.heap.size w.heap.size (Lib.byteCells (txR rs)) wr ∧ Below w.heap.size w wr) := ⟨hB, hb⟩
      clear hB hb
      go_wp2_with fail
      refine (string_any w.heap.size w.heap.size _ _ HB.out.1 HB.out.2.size).mono ?_
      rintro e w6 ⟨rfl, hb6⟩
      have H6 : Hid (Below w.heap.size w w6) := HB.out.2.trans hb6
      clear hb6
      go_wp2
      go_ret
      exact ⟨rfl, H6.out⟩
end Go.Proofs.YtndammnilopfaaaDoor
