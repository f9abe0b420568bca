/- Texts of ours put together: LnOa, BoL. -/
import Derived.Test.YtamlhbjcokkmeaaGreatDoorG15
import Derived.Test.YtamlhbjcokkmeaaGreatDoorG00
import Derived.Test.YtamlhbjcokkmeaaGreatDoorG31
import Derived.Test.YtamlhbjcokkmeaaGreatDoorG24
import Derived.Test.YtamlhbjcokkmeaaGreatDoorG37
namespace Go.Proofs.YtamlhbjcokkmeaaGreatDoor
open Go.ChangeShapes Go.WideShapes Go.ChangeAt Go.RowKit
set_option maxHeartbeats 1000000 in
theorem open_any (l : OLn) (hok : LnOk l) (w : World) : Calls Tryz.prog 74 #[.agg #[.string l.partner, .string l.ref, .int .i64 l.no, .string l.item, .int .i64 l.ordered, .int .i64 l.sent, .int .i64 l.got, .int .i64 l.cut]] w fun e w' => e = .returned (.int .i64 (l.ordered - l.sent - l.cut)) ∧ Below w.heap.size w w' := by
  have k0 := hok.o1
  have k1 := hok.o2
  have k2 := hok.s0
  have k3 := hok.g0
  have k4 := hok.c0
  have k5 := hok.gs
  have k6 := hok.so
  have k7 := hok.co
  have HB : Hid (∀ o, Below w.heap.size w (w.alloc o)) := fun o => (Below.refl _ _).alloc (Nat.le_refl _) _
  clear hok
  go_enter Tryz.func74, Tryz.ntmps74
  go_wp2
  go_ret
  exact ⟨rfl, HB.out _⟩
set_option maxHeartbeats 1000000 in
theorem transit_any (l : OLn) (hok : LnOk l) (w : World) : Calls Tryz.prog 75 #[.agg #[.string l.partner, .string l.ref, .int .i64 l.no, .string l.item, .int .i64 l.ordered, .int .i64 l.sent, .int .i64 l.got, .int .i64 l.cut]] w fun e w' => e = .returned (.int .i64 (l.sent - l.got)) ∧ Below w.heap.size w w' := by
  have k0 := hok.o1
  have k1 := hok.o2
  have k2 := hok.s0
  have k3 := hok.g0
  have k4 := hok.c0
  have k5 := hok.gs
  have k6 := hok.so
  have k7 := hok.co
  have HB : Hid (∀ o, Below w.heap.size w (w.alloc o)) := fun o => (Below.refl _ _).alloc (Nat.le_refl _) _
  clear hok
  go_enter Tryz.func75, Tryz.ntmps75
  go_wp2
  go_ret
  exact ⟨rfl, HB.out _⟩
end Go.Proofs.YtamlhbjcokkmeaaGreatDoor
namespace Go.Proofs.YtamlhbjcokkmeaaGreatDoor
open Go.ChangeShapes Go.WideShapes Go.ChangeAt Go.RowKit
theorem ownOl_below {W W' : World} {base : Nat} {v : Value} {k : Nat} {xs : List Value} (h : W.ownsRow base 107 8 v k xs) (hb : Below W.heap.size W W') : W'.ownsRow base 107 8 v k xs := by
  refine h.kept (row := none) ⟨hb.os, hb.tape, hb.output, hb.size, fun j hj _ => hb.block j hj⟩ ?_
  rcases h.2 with ⟨e, _⟩ | ⟨g, cap, cur, e, _⟩
  · exact .inl (by rw [e]; rfl)
  · exact .inr (by rw [e]; simp [Value.ownBlock])
/-- Those of the first k that are of that Partner and Item. -/
def ofK (p i : ByteArray) (rs : List OLn) (k : Nat) : List OLn := (rs.take k).filter (ofB p i)
theorem ofK_next {p i : ByteArray} {rs : List OLn} {k : Nat} {l : OLn} (h : rs[k]? = some l) : ofK p i rs (k + 1) = if ofB p i l = true then ofK p i rs k ++ [l] else ofK p i rs k := by
  unfold ofK
  rw [List.take_add_one, h, List.filter_append]
  cases e : ofB p i l <;> simp [e]
theorem ofK_len (p i : ByteArray) (rs : List OLn) (k : Nat) : (ofK p i rs k).length ≤ k := by
  unfold ofK
  refine Nat.le_trans (List.length_filter_le _ _) ?_
  rw [List.length_take]
  omega
theorem ofK_all (p i : ByteArray) (rs : List OLn) : ofK p i rs rs.length = rs.filter (ofB p i) := by
  unfold ofK
  rw [List.take_length]
set_option maxHeartbeats 8000000 in
theorem linesAmong_any (v : Value) (rs : List OLn) (q i : ByteArray) (w1 : World) (h : RowOl w1 v rs) (hl : rs.length ≤ 200) (hok : ∀ l ∈ rs, LnOk l) : Calls Tryz.prog 72 #[v, .string q, .string i] w1 fun e w' => ∃ v, e = .returned v ∧ RowOl w' v (rs.filter (ofB q i)) ∧ Below w1.heap.size w1 w' := by
  have hlen := h.len
  obtain ⟨a', c', rfl⟩ := h.val
  have HRow : Hid (RowOl w1 (.slice a' rs.length c') rs) := h
  have HK : Hid (∀ l ∈ rs, LnOk l) := hok
  clear h hok
  go_enter Tryz.func72, Tryz.ntmps72
  go_wp2_with fail
  go_loopw [7, 12] (fun lv ix wr => ∃ k : Nat, ix = .int .i64 (k : Int) ∧ k ≤ rs.length ∧ (∃ A C, lv = .slice A (ofK q i rs k).length C) ∧ wr.ownsRow w1.heap.size 107 8 lv (ofK q i rs k).length (clOls (ofK q i rs k)) ∧ Below w1.heap.size w1 wr) (fun _ ix _ => rs.length - (intOf ix).toNat)
  case atStart => exact ⟨0, rfl, by omega, ⟨none, 0, by simp [ofK]⟩, by simpa [ofK, clOls] using World.ownsRow_nil w1 w1.heap.size 107 8, Below.refl _ _⟩
  case round =>
    obtain ⟨k, rfl, hk, ⟨A1, C1, rfl⟩, hO, hb⟩ := hrel
    obtain ⟨zs, hzs⟩ : ∃ zs, zs = ofK q i rs k := ⟨_, rfl⟩
    rw [← hzs] at hO
    try rw [← hzs]
    have hzl : zs.length ≤ k := by rw [hzs]; exact ofK_len q i rs k
    have HE : Hid (wr.ownsRow w1.heap.size 107 8 (.slice A1 zs.length C1) zs.length (clOls zs) ∧ Below w1.heap.size w1 wr ∧ zs = ofK q i rs k) := ⟨hO, hb, hzs⟩
    clear hO hzs
    by_cases hlt : k < rs.length
    · have hlt' : (k : Int) < (rs.length : Int) := by omega
      obtain ⟨b, o, cap', l, e, hs, hat, hz⟩ := (HRow.out.below hb).at hlt
      simp only [Value.slice.injEq, true_and] at e
      obtain ⟨rfl, rfl⟩ := e
      have HS : Hid (rs[k]? = some l) := hs
      obtain ⟨q0, q1, q2, q3, q4, q5, q6, q7⟩ := hat
      clear hs hz hb
      have hsz := HE.out.2.1.size
      obtain ⟨W1, hW1⟩ : ∃ W1, wr.alloc (.cells #[.string l.partner, .string l.ref, .int .i64 l.no, .string l.item, .int .i64 l.ordered, .int .i64 l.sent, .int .i64 l.got, .int .i64 l.cut] 107) = W1 := ⟨_, rfl⟩
      obtain ⟨P, hP⟩ : ∃ P, P = wr.heap.size := ⟨_, rfl⟩
      have hbx : W1.heap[P]? = some (.cells #[.string l.partner, .string l.ref, .int .i64 l.no, .string l.item, .int .i64 l.ordered, .int .i64 l.sent, .int .i64 l.got, .int .i64 l.cut] 107) := by rw [← hW1, hP]; exact World.alloc_heap_new _ _
      have HB : Hid (W1.heap[P]? = some (.cells #[.string l.partner, .string l.ref, .int .i64 l.no, .string l.item, .int .i64 l.ordered, .int .i64 l.sent, .int .i64 l.got, .int .i64 l.cut] 107) ∧ W1.ownsRow w1.heap.size 107 8 (.slice A1 zs.length C1) zs.length (clOls zs) ∧ Below w1.heap.size w1 W1) := ⟨hbx, by rw [← hW1]; exact HE.out.1.alloc _, by rw [← hW1]; exact HE.out.2.1.alloc hsz _⟩
      have HW : Hid (wr.alloc (.cells #[.string l.partner, .string l.ref, .int .i64 l.no, .string l.item, .int .i64 l.ordered, .int .i64 l.sent, .int .i64 l.got, .int .i64 l.cut] 107) = W1 ∧ P = wr.heap.size) := ⟨hW1, hP⟩
      clear hW1 hP
      go_upto_region 5 with fail
      rw [HW.out.1, ← HW.out.2]
      obtain ⟨c0, c1, c2, c3, c4, c5, c6, c7⟩ := box8 hbx
      clear q0 q1 q2 q3 q4 q5 q6 q7 hbx HW
      cases e1 : (l.item.toList == i.toList) with
      | false =>
        have HZ : Hid (zs = ofK q i rs (k + 1)) := by show _ = _; rw [ofK_next HS.out, if_neg (by simp [ofB, e1]), HE.out.2.2]
        go_wp2
        go_roundw
        case rel => exact ⟨k + 1, by go_num, by omega, ⟨A1, C1, by rw [← HZ.out]⟩, by rw [← HZ.out]; exact HB.out.2.1, HB.out.2.2⟩
        case measure => simp [intOf]; omega
      | true =>
        have Q1 := isOf_any l q
        obtain ⟨x, hx⟩ : ∃ x, x = isB q l := ⟨_, rfl⟩
        have HX : Hid (x = isB q l ∧ (l.item.toList == i.toList) = true) := ⟨hx, e1⟩
        rw [← hx] at Q1
        clear hx
        go_wp2_with fail
        refine (Q1 _).mono ?_
        rintro e w5 ⟨rfl, hb5⟩
        have hlt1 := (Array.getElem?_eq_some_iff.1 HB.out.1).1
        have hbx := (hb5.block _ hlt1).trans HB.out.1
        have hsz1 := HB.out.2.2.size
        have H5 : Hid (w5.ownsRow w1.heap.size 107 8 (.slice A1 zs.length C1) zs.length (clOls zs) ∧ Below w1.heap.size w1 w5) := ⟨ownOl_below HB.out.2.1 hb5, HB.out.2.2.trans (hb5.mono hsz1)⟩
        obtain ⟨d0, d1, d2, d3, d4, d5, d6, d7⟩ := box8 hbx
        clear c0 c1 c2 c3 c4 c5 c6 c7 hbx hb5 Q1
        cases x with
        | false =>
          have HZ : Hid (zs = ofK q i rs (k + 1)) := by show _ = _; rw [ofK_next HS.out, if_neg (by rw [ofB_isB, ← HX.out.1]; simp), HE.out.2.2]
          go_wp2
          go_roundw
          case rel => exact ⟨k + 1, by go_num, by omega, ⟨A1, C1, by rw [← HZ.out]⟩, by rw [← HZ.out]; exact H5.out.1, H5.out.2⟩
          case measure => simp [intOf]; omega
        | true =>
          have HZ : Hid (zs ++ [l] = ofK q i rs (k + 1)) := by show _ = _; rw [ofK_next HS.out, if_pos (by rw [ofB_isB, ← HX.out.1, HX.out.2]; rfl), HE.out.2.2]
          obtain ⟨W2, hW2⟩ : ∃ W2, w5.alloc (.cells #[.string l.partner, .string l.ref, .int .i64 l.no, .string l.item, .int .i64 l.ordered, .int .i64 l.sent, .int .i64 l.got, .int .i64 l.cut] 107) = W2 := ⟨_, rfl⟩
          have hs5 := H5.out.2.size
          have hrow : W2.ownsRow w1.heap.size 107 8 (.slice A1 zs.length C1) zs.length (clOls zs) := by rw [← hW2]; exact H5.out.1.alloc _
          have hat2 : AtOl W2 w5.heap.size 0 l := by
            have : W2.heap[w5.heap.size]? = some (.cells #[.string l.partner, .string l.ref, .int .i64 l.no, .string l.item, .int .i64 l.ordered, .int .i64 l.sent, .int .i64 l.got, .int .i64 l.cut] 107) := by rw [← hW2]; exact World.alloc_heap_new _ _
            exact box8 this
          have hb2 : Below w1.heap.size w1 W2 := by rw [← hW2]; exact H5.out.2.alloc hs5 _
          have hs2 : w1.heap.size ≤ W2.heap.size := hb2.size
          go_upto_region 6 with fail
          have hl1 : zs.length + 1 ≤ 2000000 := by omega
          go_wp2_with (first | (at_builtin; refine wpList_appOl (base := w1.heap.size) (c := w5.heap.size) (C := 1) (lv := .slice A1 zs.length C1) (rs := zs) (g := l) rfl (.tmp 25) (.tmp 27) rfl rfl rfl hrow hat2 hl1 hs2 ?_; rintro v4 w4 hown4 hgrow4 ⟨A4, C4, rfl⟩))
          have H4 : Hid (w4.ownsRow w1.heap.size 107 8 (.slice A4 (zs ++ [l]).length C4) (zs ++ [l]).length (clOls (zs ++ [l])) ∧ Below w1.heap.size w1 w4) := by
            refine ⟨hown4, hb2.trans ⟨hgrow4.os, hgrow4.tape, hgrow4.output, hgrow4.size, fun j hj => hgrow4.block j (by omega) (fun e => ?_)⟩⟩
            have := (hrow.lt j e.symm).1
            omega
          clear hown4 hgrow4 hrow hat2 hb2 hW2
          have e4 : (zs ++ [l]).length = zs.length + 1 := by simp
          have h4 := H4.out.1
          rw [e4] at h4
          exact ⟨⟨k + 1, by go_num, by omega, ⟨A4, C4, by rw [← HZ.out, e4]⟩, by rw [← HZ.out, e4]; exact h4, H4.out.2⟩, by simp [intOf]; omega⟩
    · obtain rfl : k = rs.length := by omega
      have HT : Hid (zs = rs.filter (ofB q i)) := by show _ = _; rw [HE.out.2.2, ofK_all]
      have hzz : ∀ (j : Nat) (g : OLn), zs[j]? = some g → g.partner.size ≤ 9223372036854775807 ∧ g.ref.size ≤ 9223372036854775807 ∧ g.item.size ≤ 9223372036854775807 := fun j g hj => by
        have hm : g ∈ rs := by
          have := List.mem_of_getElem? hj
          rw [HT.out] at this
          exact (List.mem_filter.1 this).1
        have := HK.out g hm
        have h1 := (nameB_sizes this.p).2
        have h2 := (nameB_sizes this.r).2
        have h3 := (nameB_sizes this.i).2
        omega
      obtain ⟨bb, _, hL⟩ := LOl.of_owns HE.out.1 (by omega) hzz
      have HL : Hid (RowOl wr (.slice A1 zs.length C1) zs) := hL.row
      clear hL hzz hb
      go_wp2
      go_ret
      exact ⟨_, rfl, by rw [← HT.out]; exact HL.out, HE.out.2.1⟩
end Go.Proofs.YtamlhbjcokkmeaaGreatDoor
