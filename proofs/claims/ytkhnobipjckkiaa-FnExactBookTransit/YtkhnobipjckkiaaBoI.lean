/- Contracts of the program's linesOf, sumOf, BookOrdered and BookTransit. -/
import Derived.Test.YtkhnobipjckkiaaBkI
import Derived.Test.YtkhnobipjckkiaaAppOl
import Derived.Test.YtkhnobipjckkiaaLnOa
namespace Go.Proofs.Ytkhnobipjckkiaa
open Go.ChangeShapes Go.WideShapes Go.ChangeAt Go.RowKit
theorem right_all {rs : List OLn} (h : RightL rs) (k : Nat) (l : OLn) (hk : rs[k]? = some l) : LnOk l := (h.at_ k l hk).ok
/-- Those of the first k that are of that Partner and Item. -/
def ofK (p i : ByteArray) (rs : List OLn) (k : Nat) : List OLn := (rs.take k).filter (ofB p i)
theorem ofK_next {p i : ByteArray} {rs : List OLn} {k : Nat} {l : OLn} (h : rs[k]? = some l) : ofK p i rs (k + 1) = if ofB p i l = true then ofK p i rs k ++ [l] else ofK p i rs k := by
  unfold ofK
  rw [List.take_add_one, h, List.filter_append]
  cases e : ofB p i l <;> simp [e]
theorem ofK_len (p i : ByteArray) (rs : List OLn) (k : Nat) : (ofK p i rs k).length ≤ k := by
  unfold ofK
  refine Nat.le_trans (List.length_filter_le _ _) ?_
  rw [List.length_take]
  omega
theorem ofK_all (p i : ByteArray) (rs : List OLn) : ofK p i rs rs.length = rs.filter (ofB p i) := by
  unfold ofK
  rw [List.take_length]
/-- What linesOf tells. -/
noncomputable def linesT (p : Bk) (q i : ByteArray) : List OLn := if bkB p = true then p.lines.filter (ofB q i) else []
theorem linesT_no {p : Bk} {q i : ByteArray} (h : bkB p = false) : linesT p q i = [] := by simp [linesT, h]
theorem linesT_yes {p : Bk} {q i : ByteArray} (h : bkB p = true) : linesT p q i = p.lines.filter (ofB q i) := by simp [linesT, h]
set_option maxHeartbeats 8000000 in
theorem linesOf_any (p : Bk) (us ul : Value) (q i : ByteArray) (w : World) (h : RBk w us ul p) : Calls Try.prog 43 #[.agg #[us, ul], .string q, .string i] w fun e w' => ∃ v, e = .returned v ∧ RowOl w' v (linesT p q i) ∧ Below w.heap.size w w' := by
  have hlen := h.ln.len
  obtain ⟨a, c, a', c', rfl, rfl⟩ := h.val
  obtain ⟨W0, hW0⟩ : ∃ W0, w.alloc (.cells #[.slice a p.stocks.length c, .slice a' p.lines.length c'] 31) = W0 := ⟨_, rfl⟩
  have hb0 : Below w.heap.size w W0 := by rw [← hW0]; exact (Below.refl _ _).alloc (Nat.le_refl _) _
  have hbx : W0.heap[w.heap.size]? = some (.cells #[.slice a p.stocks.length c, .slice a' p.lines.length c'] 31) := by rw [← hW0]; exact World.alloc_heap_new _ _
  have H0 : Hid (Below w.heap.size w W0 ∧ RBk W0 (.slice a p.stocks.length c) (.slice a' p.lines.length c') p ∧ W0.heap[w.heap.size]? = some (.cells #[.slice a p.stocks.length c, .slice a' p.lines.length c'] 31)) := ⟨hb0, h.below hb0, hbx⟩
  obtain ⟨c0, c1⟩ := box2 hbx
  have hlt0 := (Array.getElem?_eq_some_iff.1 hbx).1
  clear h hb0 hbx
  go_enter Try.func43, Try.ntmps43
  go_upto_region 1 with fail
  try rw [hW0]
  clear hW0
  obtain ⟨x, hx⟩ : ∃ x, x = bkB p := ⟨_, rfl⟩
  have HX : Hid (x = bkB p) := hx
  have Q1 := fun W h => bookRight_impl p (.slice a p.stocks.length c) (.slice a' p.lines.length c') W h
  rw [← hx] at Q1
  clear hx
  go_wp2_with fail
  refine (Q1 _ H0.out.2.1).mono ?_
  rintro e w1 ⟨rfl, hb1⟩
  have H1 : Hid (Below w.heap.size w w1 ∧ RowOl w1 (.slice a' p.lines.length c') p.lines) := ⟨H0.out.1.trans (hb1.mono H0.out.1.size), (H0.out.2.1.below hb1).ln⟩
  obtain ⟨d0, d1⟩ := box2 ((hb1.block _ hlt0).trans H0.out.2.2)
  clear hb1 c0 c1 Q1
  cases x with
  | false =>
    have HN : Hid (linesT p q i = []) := linesT_no HX.out.symm
    go_wp2
    go_ret
    exact ⟨_, rfl, by rw [HN.out]; exact RowOl.nil _, H1.out.1⟩
  | true =>
    have hR := (bkB_iff.1 HX.out.symm).2
    have hl := hR.len
    have HN : Hid (linesT p q i = p.lines.filter (ofB q i)) := linesT_yes HX.out.symm
    have HK : Hid (∀ l ∈ p.lines, LnOk l) := hR.ok
    clear hR
    obtain ⟨rs, hrs⟩ : ∃ rs, rs = p.lines := ⟨_, rfl⟩
    rw [← hrs] at hl hlen d1
    have HR : Hid (rs = p.lines) := hrs
    have HRow : Hid (RowOl w1 (.slice a' rs.length c') rs) := by rw [hrs]; exact H1.out.2
    clear hrs d0
    go_wp2_with fail
    go_loopw [7, 16] (fun lv ix wr => ∃ k : Nat, ix = .int .i64 (k : Int) ∧ k ≤ rs.length ∧ (∃ A C, lv = .slice A (ofK q i rs k).length C) ∧ wr.ownsRow w1.heap.size 61 8 lv (ofK q i rs k).length (clOls (ofK q i rs k)) ∧ Below w1.heap.size w1 wr) (fun _ ix _ => rs.length - (intOf ix).toNat)
    case atStart => exact ⟨0, rfl, by omega, ⟨none, 0, by simp [ofK]⟩, by simpa [ofK, clOls] using World.ownsRow_nil w1 w1.heap.size 61 8, Below.refl _ _⟩
    case round =>
      obtain ⟨k, rfl, hk, ⟨A1, C1, rfl⟩, hO, hb⟩ := hrel
      obtain ⟨zs, hzs⟩ : ∃ zs, zs = ofK q i rs k := ⟨_, rfl⟩
      rw [← hzs] at hO
      try rw [← hzs]
      have hzl : zs.length ≤ k := by rw [hzs]; exact ofK_len q i rs k
      have HE : Hid (wr.ownsRow w1.heap.size 61 8 (.slice A1 zs.length C1) zs.length (clOls zs) ∧ Below w1.heap.size w1 wr ∧ zs = ofK q i rs k) := ⟨hO, hb, hzs⟩
      clear hO hzs
      by_cases hlt : k < rs.length
      · have hlt' : (k : Int) < (rs.length : Int) := by omega
        obtain ⟨b, o, cap', l, e, hs, hat, hz⟩ := (HRow.out.below hb).at hlt
        simp only [Value.slice.injEq, true_and] at e
        obtain ⟨rfl, rfl⟩ := e
        have HS : Hid (rs[k]? = some l) := hs
        obtain ⟨q0, q1, q2, q3, q4, q5, q6, q7⟩ := hat
        clear hs hz hb
        have hbx : Below wr.heap.size wr (wr.alloc (.cells #[.string l.partner, .string l.ref, .int .i64 l.no, .string l.item, .int .i64 l.ordered, .int .i64 l.sent, .int .i64 l.got, .int .i64 l.cut] 61)) := (Below.refl _ _).alloc (Nat.le_refl _) _
        have hsz := HE.out.2.1.size
        cases e1 : (l.item.toList == i.toList) with
        | false =>
          have HZ : Hid (zs = ofK q i rs (k + 1)) := by show _ = _; rw [ofK_next HS.out, if_neg (by simp [ofB, e1]), HE.out.2.2]
          have HH : Hid ((wr.alloc (.cells #[.string l.partner, .string l.ref, .int .i64 l.no, .string l.item, .int .i64 l.ordered, .int .i64 l.sent, .int .i64 l.got, .int .i64 l.cut] 61)).ownsRow w1.heap.size 61 8 (.slice A1 zs.length C1) zs.length (clOls zs) ∧ Below w1.heap.size w1 (wr.alloc (.cells #[.string l.partner, .string l.ref, .int .i64 l.no, .string l.item, .int .i64 l.ordered, .int .i64 l.sent, .int .i64 l.got, .int .i64 l.cut] 61))) := ⟨HE.out.1.alloc _, HE.out.2.1.alloc hsz _⟩
          go_wp2
          go_roundw
          case rel => exact ⟨k + 1, by go_num, by omega, ⟨A1, C1, by rw [← HZ.out]⟩, by rw [← HZ.out]; exact HH.out.1, HH.out.2⟩
          case measure => simp [intOf]; omega
        | true =>
          cases e2 : q.toList.isEmpty with
          | true =>
            have HZ : Hid (zs ++ [l] = ofK q i rs (k + 1)) := by show _ = _; rw [ofK_next HS.out, if_pos (by simp [ofB, e1, e2]), HE.out.2.2]
            obtain ⟨W2, hW2⟩ : ∃ W2, ((wr.alloc (.cells #[.string l.partner, .string l.ref, .int .i64 l.no, .string l.item, .int .i64 l.ordered, .int .i64 l.sent, .int .i64 l.got, .int .i64 l.cut] 61)).alloc (.cells #[.string l.partner, .string l.ref, .int .i64 l.no, .string l.item, .int .i64 l.ordered, .int .i64 l.sent, .int .i64 l.got, .int .i64 l.cut] 61)) = W2 := ⟨_, rfl⟩
            have hrow : W2.ownsRow w1.heap.size 61 8 (.slice A1 zs.length C1) zs.length (clOls zs) := by rw [← hW2]; exact (HE.out.1.alloc _).alloc _
            have hat2 : AtOl W2 (wr.heap.size + 1) 0 l := by
              have := (fl_two wr (.cells #[.string l.partner, .string l.ref, .int .i64 l.no, .string l.item, .int .i64 l.ordered, .int .i64 l.sent, .int .i64 l.got, .int .i64 l.cut] 61) (.cells #[.string l.partner, .string l.ref, .int .i64 l.no, .string l.item, .int .i64 l.ordered, .int .i64 l.sent, .int .i64 l.got, .int .i64 l.cut] 61)).2
              rw [hW2] at this
              exact box8 this
            have hb2 : Below w1.heap.size w1 W2 := by rw [← hW2]; exact (HE.out.2.1.alloc hsz _).alloc (by simp; omega) _
            have hs2 : w1.heap.size ≤ W2.heap.size := hb2.size
            go_upto_region 8 with fail
            have hl1 : zs.length + 1 ≤ 1000000 := by omega
            go_wp2_with (first | (at_builtin; refine wpList_appOl (base := w1.heap.size) (c := wr.heap.size + 1) (C := 1) (lv := .slice A1 zs.length C1) (rs := zs) (g := l) rfl (.tmp 34) (.tmp 36) rfl rfl rfl hrow hat2 hl1 hs2 ?_; rintro v4 w4 hown4 hgrow4 ⟨A4, C4, rfl⟩))
            have H4 : Hid (w4.ownsRow w1.heap.size 61 8 (.slice A4 (zs ++ [l]).length C4) (zs ++ [l]).length (clOls (zs ++ [l])) ∧ Below w1.heap.size w1 w4) := by
              refine ⟨hown4, hb2.trans ⟨hgrow4.os, hgrow4.tape, hgrow4.output, hgrow4.size, fun j hj => hgrow4.block j (by omega) (fun e => ?_)⟩⟩
              have := (hrow.lt j e.symm).1
              omega
            clear hown4 hgrow4 hrow hat2 hb2 hW2
            have e4 : (zs ++ [l]).length = zs.length + 1 := by simp
            have h4 := H4.out.1
            rw [e4] at h4
            exact ⟨⟨k + 1, by go_num, by omega, ⟨A4, C4, by rw [← HZ.out, e4]⟩, by rw [← HZ.out, e4]; exact h4, H4.out.2⟩, by simp [intOf]; omega⟩
          | false =>
            cases e3 : (l.partner.toList == q.toList) with
            | true =>
            have HZ : Hid (zs ++ [l] = ofK q i rs (k + 1)) := by show _ = _; rw [ofK_next HS.out, if_pos (by simp [ofB, e1, e2, e3]), HE.out.2.2]
            obtain ⟨W2, hW2⟩ : ∃ W2, ((wr.alloc (.cells #[.string l.partner, .string l.ref, .int .i64 l.no, .string l.item, .int .i64 l.ordered, .int .i64 l.sent, .int .i64 l.got, .int .i64 l.cut] 61)).alloc (.cells #[.string l.partner, .string l.ref, .int .i64 l.no, .string l.item, .int .i64 l.ordered, .int .i64 l.sent, .int .i64 l.got, .int .i64 l.cut] 61)) = W2 := ⟨_, rfl⟩
            have hrow : W2.ownsRow w1.heap.size 61 8 (.slice A1 zs.length C1) zs.length (clOls zs) := by rw [← hW2]; exact (HE.out.1.alloc _).alloc _
            have hat2 : AtOl W2 (wr.heap.size + 1) 0 l := by
              have := (fl_two wr (.cells #[.string l.partner, .string l.ref, .int .i64 l.no, .string l.item, .int .i64 l.ordered, .int .i64 l.sent, .int .i64 l.got, .int .i64 l.cut] 61) (.cells #[.string l.partner, .string l.ref, .int .i64 l.no, .string l.item, .int .i64 l.ordered, .int .i64 l.sent, .int .i64 l.got, .int .i64 l.cut] 61)).2
              rw [hW2] at this
              exact box8 this
            have hb2 : Below w1.heap.size w1 W2 := by rw [← hW2]; exact (HE.out.2.1.alloc hsz _).alloc (by simp; omega) _
            have hs2 : w1.heap.size ≤ W2.heap.size := hb2.size
            go_upto_region 8 with fail
            have hl1 : zs.length + 1 ≤ 1000000 := by omega
            go_wp2_with (first | (at_builtin; refine wpList_appOl (base := w1.heap.size) (c := wr.heap.size + 1) (C := 1) (lv := .slice A1 zs.length C1) (rs := zs) (g := l) rfl (.tmp 34) (.tmp 36) rfl rfl rfl hrow hat2 hl1 hs2 ?_; rintro v4 w4 hown4 hgrow4 ⟨A4, C4, rfl⟩))
            have H4 : Hid (w4.ownsRow w1.heap.size 61 8 (.slice A4 (zs ++ [l]).length C4) (zs ++ [l]).length (clOls (zs ++ [l])) ∧ Below w1.heap.size w1 w4) := by
              refine ⟨hown4, hb2.trans ⟨hgrow4.os, hgrow4.tape, hgrow4.output, hgrow4.size, fun j hj => hgrow4.block j (by omega) (fun e => ?_)⟩⟩
              have := (hrow.lt j e.symm).1
              omega
            clear hown4 hgrow4 hrow hat2 hb2 hW2
            have e4 : (zs ++ [l]).length = zs.length + 1 := by simp
            have h4 := H4.out.1
            rw [e4] at h4
            exact ⟨⟨k + 1, by go_num, by omega, ⟨A4, C4, by rw [← HZ.out, e4]⟩, by rw [← HZ.out, e4]; exact h4, H4.out.2⟩, by simp [intOf]; omega⟩
            | false =>
              have HZ : Hid (zs = ofK q i rs (k + 1)) := by show _ = _; rw [ofK_next HS.out, if_neg (by simp [ofB, e1, e2, e3]), HE.out.2.2]
              have HH : Hid ((wr.alloc (.cells #[.string l.partner, .string l.ref, .int .i64 l.no, .string l.item, .int .i64 l.ordered, .int .i64 l.sent, .int .i64 l.got, .int .i64 l.cut] 61)).ownsRow w1.heap.size 61 8 (.slice A1 zs.length C1) zs.length (clOls zs) ∧ Below w1.heap.size w1 (wr.alloc (.cells #[.string l.partner, .string l.ref, .int .i64 l.no, .string l.item, .int .i64 l.ordered, .int .i64 l.sent, .int .i64 l.got, .int .i64 l.cut] 61))) := ⟨HE.out.1.alloc _, HE.out.2.1.alloc hsz _⟩
              go_wp2
              go_roundw
              case rel => exact ⟨k + 1, by go_num, by omega, ⟨A1, C1, by rw [← HZ.out]⟩, by rw [← HZ.out]; exact HH.out.1, HH.out.2⟩
              case measure => simp [intOf]; omega
      · obtain rfl : k = rs.length := by omega
        have HT : Hid (zs = linesT p q i) := by show _ = _; rw [HE.out.2.2, ofK_all, HN.out, HR.out]
        have hzz : ∀ (j : Nat) (g : OLn), zs[j]? = some g → g.partner.size ≤ 9223372036854775807 ∧ g.ref.size ≤ 9223372036854775807 ∧ g.item.size ≤ 9223372036854775807 := fun j g hj => by
          have hm : g ∈ p.lines := by
            have := List.mem_of_getElem? hj
            rw [HE.out.2.2, ofK_all, HR.out] at this
            exact (List.mem_filter.1 this).1
          have := HK.out g hm
          have h1 := (nameB_sizes this.p).2
          have h2 := (nameB_sizes this.r).2
          have h3 := (nameB_sizes this.i).2
          omega
        obtain ⟨bb, _, hL⟩ := LOl.of_owns HE.out.1 (by omega) hzz
        have HL : Hid (RowOl wr (.slice A1 zs.length C1) zs) := hL.row
        clear hL hzz hb
        go_wp2
        go_ret
        exact ⟨_, rfl, by rw [← HT.out]; exact HL.out, H1.out.1.trans (HE.out.2.1.mono H1.out.1.size)⟩
set_option maxHeartbeats 4000000 in
theorem sumOpen_any (v : Value) (rs : List OLn) (w : World) (h : RowOl w v rs) (hl : rs.length ≤ 200) (hok : ∀ l ∈ rs, LnOk l) : Calls Try.prog 42 #[v, .func (.func 44) #[] #[]] w fun e w' => e = .returned (.int .i64 (sumL opnT rs)) ∧ Below w.heap.size w w' := by
  have hlen := h.len
  obtain ⟨A, C, rfl⟩ := h.val
  have H0 : Hid (RowOl w (.slice A rs.length C) rs ∧ ∀ l ∈ rs, LnOk l) := ⟨h, hok⟩
  clear h hok
  go_enter Try.func42, Try.ntmps42
  go_wp2_with fail
  go_loopw [5, 10] (fun z ix wr => ∃ (k : Nat) (s : Int), ix = .int .i64 (k : Int) ∧ z = .int .i64 s ∧ k ≤ rs.length ∧ 0 ≤ s ∧ s ≤ 1000000 * (k : Int) ∧ s = sumL opnT (rs.take k) ∧ Below w.heap.size w wr) (fun _ ix _ => rs.length - (intOf ix).toNat)
  case atStart => exact ⟨0, 0, rfl, rfl, by omega, by omega, by omega, by simp [sumL], Below.refl _ _⟩
  case round =>
    obtain ⟨k, s, rfl, rfl, hk, hs0, hs1, hse, hb⟩ := hrel
    have HE : Hid (s = sumL opnT (rs.take k) ∧ Below w.heap.size w wr) := ⟨hse, hb⟩
    clear hse
    by_cases hlt : k < rs.length
    · have hlt' : (k : Int) < (rs.length : Int) := by omega
      obtain ⟨b, o, cap', l, e, hs, hat, hz⟩ := (H0.out.1.below hb).at hlt
      simp only [Value.slice.injEq, true_and] at e
      obtain ⟨rfl, rfl⟩ := e
      have HS : Hid (rs[k]? = some l) := hs
      have hok := H0.out.2 l (List.mem_of_getElem? hs)
      obtain ⟨q0, q1, q2, q3, q4, q5, q6, q7⟩ := hat
      have Q1 := open_any l hok
      rw [← opnT_yes hok] at Q1
      obtain ⟨f, hf⟩ : ∃ f, f = opnT l := ⟨_, rfl⟩
      have hfb := opnT_bound l
      rw [← hf] at Q1 hfb
      obtain ⟨hf0, hf1⟩ := hfb
      have HF : Hid (f = opnT l) := hf
      clear hs hz hok hf hb
      have hbx : Below w.heap.size w (wr.alloc (.cells #[.string l.partner, .string l.ref, .int .i64 l.no, .string l.item, .int .i64 l.ordered, .int .i64 l.sent, .int .i64 l.got, .int .i64 l.cut] 61)) := HE.out.2.alloc HE.out.2.size _
      have HB : Hid (Below w.heap.size w (wr.alloc (.cells #[.string l.partner, .string l.ref, .int .i64 l.no, .string l.item, .int .i64 l.ordered, .int .i64 l.sent, .int .i64 l.got, .int .i64 l.cut] 61))) := hbx
      clear hbx
      go_wp2_with fail
      refine (Q1 _).mono ?_
      rintro e w2 ⟨rfl, hb2⟩
      have H2 : Hid (Below w.heap.size w w2) := HB.out.trans (hb2.mono HB.out.size)
      clear hb2 Q1
      go_wp2
      go_roundw
      case rel =>
        refine ⟨k + 1, s + f, by go_num, by go_num, by omega, by omega, by omega, ?_, H2.out⟩
        rw [List.take_add_one, HS.out, sumL_app, HE.out.1, HF.out]
        simp [sumL]
      case measure => simp [intOf]; omega
    · obtain rfl : k = rs.length := by omega
      have HS : Hid (s = sumL opnT rs) := by have := HE.out.1; rw [List.take_length] at this; exact this
      clear hb
      go_wp2
      go_ret
      exact ⟨by rw [← HS.out]; rfl, HE.out.2⟩
set_option maxHeartbeats 4000000 in
theorem sumTransit_any (v : Value) (rs : List OLn) (w : World) (h : RowOl w v rs) (hl : rs.length ≤ 200) (hok : ∀ l ∈ rs, LnOk l) : Calls Try.prog 42 #[v, .func (.func 46) #[] #[]] w fun e w' => e = .returned (.int .i64 (sumL trnT rs)) ∧ Below w.heap.size w w' := by
  have hlen := h.len
  obtain ⟨A, C, rfl⟩ := h.val
  have H0 : Hid (RowOl w (.slice A rs.length C) rs ∧ ∀ l ∈ rs, LnOk l) := ⟨h, hok⟩
  clear h hok
  go_enter Try.func42, Try.ntmps42
  go_wp2_with fail
  go_loopw [5, 10] (fun z ix wr => ∃ (k : Nat) (s : Int), ix = .int .i64 (k : Int) ∧ z = .int .i64 s ∧ k ≤ rs.length ∧ 0 ≤ s ∧ s ≤ 1000000 * (k : Int) ∧ s = sumL trnT (rs.take k) ∧ Below w.heap.size w wr) (fun _ ix _ => rs.length - (intOf ix).toNat)
  case atStart => exact ⟨0, 0, rfl, rfl, by omega, by omega, by omega, by simp [sumL], Below.refl _ _⟩
  case round =>
    obtain ⟨k, s, rfl, rfl, hk, hs0, hs1, hse, hb⟩ := hrel
    have HE : Hid (s = sumL trnT (rs.take k) ∧ Below w.heap.size w wr) := ⟨hse, hb⟩
    clear hse
    by_cases hlt : k < rs.length
    · have hlt' : (k : Int) < (rs.length : Int) := by omega
      obtain ⟨b, o, cap', l, e, hs, hat, hz⟩ := (H0.out.1.below hb).at hlt
      simp only [Value.slice.injEq, true_and] at e
      obtain ⟨rfl, rfl⟩ := e
      have HS : Hid (rs[k]? = some l) := hs
      have hok := H0.out.2 l (List.mem_of_getElem? hs)
      obtain ⟨q0, q1, q2, q3, q4, q5, q6, q7⟩ := hat
      have Q1 := transit_any l hok
      rw [← trnT_yes hok] at Q1
      obtain ⟨f, hf⟩ : ∃ f, f = trnT l := ⟨_, rfl⟩
      have hfb := trnT_bound l
      rw [← hf] at Q1 hfb
      obtain ⟨hf0, hf1⟩ := hfb
      have HF : Hid (f = trnT l) := hf
      clear hs hz hok hf hb
      have hbx : Below w.heap.size w (wr.alloc (.cells #[.string l.partner, .string l.ref, .int .i64 l.no, .string l.item, .int .i64 l.ordered, .int .i64 l.sent, .int .i64 l.got, .int .i64 l.cut] 61)) := HE.out.2.alloc HE.out.2.size _
      have HB : Hid (Below w.heap.size w (wr.alloc (.cells #[.string l.partner, .string l.ref, .int .i64 l.no, .string l.item, .int .i64 l.ordered, .int .i64 l.sent, .int .i64 l.got, .int .i64 l.cut] 61))) := hbx
      clear hbx
      go_wp2_with fail
      refine (Q1 _).mono ?_
      rintro e w2 ⟨rfl, hb2⟩
      have H2 : Hid (Below w.heap.size w w2) := HB.out.trans (hb2.mono HB.out.size)
      clear hb2 Q1
      go_wp2
      go_roundw
      case rel =>
        refine ⟨k + 1, s + f, by go_num, by go_num, by omega, by omega, by omega, ?_, H2.out⟩
        rw [List.take_add_one, HS.out, sumL_app, HE.out.1, HF.out]
        simp [sumL]
      case measure => simp [intOf]; omega
    · obtain rfl : k = rs.length := by omega
      have HS : Hid (s = sumL trnT rs) := by have := HE.out.1; rw [List.take_length] at this; exact this
      clear hb
      go_wp2
      go_ret
      exact ⟨by rw [← HS.out]; rfl, HE.out.2⟩
set_option maxHeartbeats 4000000 in
theorem bookOrdered_impl (p : Bk) (us ul : Value) (q i : ByteArray) (w : World) (h : RBk w us ul p) (_hq : q.size ≤ 1048576) (_hi : i.size ≤ 1048576) : Calls Try.prog 17 #[.agg #[us, ul], .string q, .string i] w fun e w' => e = .returned (.int .i64 (sumT opnT p q i)) ∧ Below w.heap.size w w' := by
  obtain ⟨a, c, a', c', rfl, rfl⟩ := h.val
  obtain ⟨W0, hW0⟩ : ∃ W0, w.alloc (.cells #[.slice a p.stocks.length c, .slice a' p.lines.length c'] 31) = W0 := ⟨_, rfl⟩
  have hb0 : Below w.heap.size w W0 := by rw [← hW0]; exact (Below.refl _ _).alloc (Nat.le_refl _) _
  have hbx : W0.heap[w.heap.size]? = some (.cells #[.slice a p.stocks.length c, .slice a' p.lines.length c'] 31) := by rw [← hW0]; exact World.alloc_heap_new _ _
  have H0 : Hid (Below w.heap.size w W0 ∧ RBk W0 (.slice a p.stocks.length c) (.slice a' p.lines.length c') p ∧ W0.heap[w.heap.size]? = some (.cells #[.slice a p.stocks.length c, .slice a' p.lines.length c'] 31)) := ⟨hb0, h.below hb0, hbx⟩
  obtain ⟨c0, c1⟩ := box2 hbx
  have hlt0 := (Array.getElem?_eq_some_iff.1 hbx).1
  clear h hb0 hbx
  go_enter Try.func17, Try.ntmps17
  go_upto_region 1 with fail
  try rw [hW0]
  clear hW0
  have Q1 := linesOf_any p (.slice a p.stocks.length c) (.slice a' p.lines.length c') q i W0 H0.out.2.1
  obtain ⟨rs, hrs⟩ : ∃ rs, rs = linesT p q i := ⟨_, rfl⟩
  have HT : Hid (sumT opnT p q i = sumL opnT rs) := by
    show _ = _
    rw [hrs]
    unfold sumT linesT
    split <;> rfl
  have hlr : rs.length ≤ 200 ∧ ∀ l ∈ rs, LnOk l := by
    rw [hrs]
    unfold linesT
    split
    · rename_i hb
      have hR := (bkB_iff.1 hb).2
      exact ⟨Nat.le_trans (List.length_filter_le _ _) hR.len, fun l hl => hR.ok l (List.mem_filter.1 hl).1⟩
    · exact ⟨by simp, fun l hl => by cases hl⟩
  rw [← hrs] at Q1
  have HL : Hid (rs.length ≤ 200 ∧ ∀ l ∈ rs, LnOk l) := hlr
  clear hlr hrs
  go_wp2_with fail
  refine Q1.mono ?_
  rintro e w1 ⟨v, rfl, hr1, hb1⟩
  obtain ⟨A2, C2, rfl⟩ := hr1.val
  have H1 : Hid (Below w.heap.size w w1 ∧ RowOl w1 (.slice A2 rs.length C2) rs) := ⟨H0.out.1.trans (hb1.mono H0.out.1.size), hr1⟩
  clear hr1 hb1 Q1
  go_wp2_with fail
  refine (sumOpen_any _ rs _ H1.out.2 HL.out.1 HL.out.2).mono ?_
  rintro e w2 ⟨rfl, hb2⟩
  have H2 : Hid (Below w.heap.size w w2) := H1.out.1.trans (hb2.mono H1.out.1.size)
  clear hb2
  go_wp2
  go_ret
  exact ⟨by rw [HT.out]; rfl, H2.out⟩
set_option maxHeartbeats 4000000 in
theorem bookTransit_impl (p : Bk) (us ul : Value) (q i : ByteArray) (w : World) (h : RBk w us ul p) (_hq : q.size ≤ 1048576) (_hi : i.size ≤ 1048576) : Calls Try.prog 19 #[.agg #[us, ul], .string q, .string i] w fun e w' => e = .returned (.int .i64 (sumT trnT p q i)) ∧ Below w.heap.size w w' := by
  obtain ⟨a, c, a', c', rfl, rfl⟩ := h.val
  obtain ⟨W0, hW0⟩ : ∃ W0, w.alloc (.cells #[.slice a p.stocks.length c, .slice a' p.lines.length c'] 31) = W0 := ⟨_, rfl⟩
  have hb0 : Below w.heap.size w W0 := by rw [← hW0]; exact (Below.refl _ _).alloc (Nat.le_refl _) _
  have hbx : W0.heap[w.heap.size]? = some (.cells #[.slice a p.stocks.length c, .slice a' p.lines.length c'] 31) := by rw [← hW0]; exact World.alloc_heap_new _ _
  have H0 : Hid (Below w.heap.size w W0 ∧ RBk W0 (.slice a p.stocks.length c) (.slice a' p.lines.length c') p ∧ W0.heap[w.heap.size]? = some (.cells #[.slice a p.stocks.length c, .slice a' p.lines.length c'] 31)) := ⟨hb0, h.below hb0, hbx⟩
  obtain ⟨c0, c1⟩ := box2 hbx
  have hlt0 := (Array.getElem?_eq_some_iff.1 hbx).1
  clear h hb0 hbx
  go_enter Try.func19, Try.ntmps19
  go_upto_region 1 with fail
  try rw [hW0]
  clear hW0
  have Q1 := linesOf_any p (.slice a p.stocks.length c) (.slice a' p.lines.length c') q i W0 H0.out.2.1
  obtain ⟨rs, hrs⟩ : ∃ rs, rs = linesT p q i := ⟨_, rfl⟩
  have HT : Hid (sumT trnT p q i = sumL trnT rs) := by
    show _ = _
    rw [hrs]
    unfold sumT linesT
    split <;> rfl
  have hlr : rs.length ≤ 200 ∧ ∀ l ∈ rs, LnOk l := by
    rw [hrs]
    unfold linesT
    split
    · rename_i hb
      have hR := (bkB_iff.1 hb).2
      exact ⟨Nat.le_trans (List.length_filter_le _ _) hR.len, fun l hl => hR.ok l (List.mem_filter.1 hl).1⟩
    · exact ⟨by simp, fun l hl => by cases hl⟩
  rw [← hrs] at Q1
  have HL : Hid (rs.length ≤ 200 ∧ ∀ l ∈ rs, LnOk l) := hlr
  clear hlr hrs
  go_wp2_with fail
  refine Q1.mono ?_
  rintro e w1 ⟨v, rfl, hr1, hb1⟩
  obtain ⟨A2, C2, rfl⟩ := hr1.val
  have H1 : Hid (Below w.heap.size w w1 ∧ RowOl w1 (.slice A2 rs.length C2) rs) := ⟨H0.out.1.trans (hb1.mono H0.out.1.size), hr1⟩
  clear hr1 hb1 Q1
  go_wp2_with fail
  refine (sumTransit_any _ rs _ H1.out.2 HL.out.1 HL.out.2).mono ?_
  rintro e w2 ⟨rfl, hb2⟩
  have H2 : Hid (Below w.heap.size w w2) := H1.out.1.trans (hb2.mono H1.out.1.size)
  clear hb2
  go_wp2
  go_ret
  exact ⟨by rw [HT.out]; rfl, H2.out⟩
end Go.Proofs.Ytkhnobipjckkiaa
