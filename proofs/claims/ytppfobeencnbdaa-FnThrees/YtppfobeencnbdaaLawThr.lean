/- FnThrees returns true at every text and leaves it as it was: of a drawn right list the counts are together the lines of the Partner, done or gone are just those of which nothing is open or in transit; no condition. -/
import Derived.Test.YtppfobeencnbdaaThDr
import Derived.Test.YtppfobeencnbdaaThD
import Derived.Test.YtppfobeencnbdaaLnB
import Derived.Test.YtppfobeencnbdaaAppZOl
import Derived.Laws.StructEq
import Derived.Deep.DeepMust
namespace Go.Proofs.Ytppfobeencnbdaa
open Go.ChangeShapes Go.WideShapes Go.ChangeAt Go.RowKit
set_option linter.unusedVariables false
namespace fnThrees
def IsRow (k : IntKind) (w : World) (a : Option Addr) (len cap : Nat) (zs : List Int) : Prop :=
  (a = none ∧ len = 0 ∧ cap = 0 ∧ zs = []) ∨
  ∃ x, a = some x ∧ len ≤ cap ∧ cap ≤ maxLen ∧ zs.length = cap ∧ (∀ i, i < zs.length → w.cell? (x.add i) = some (.int k (zs.getD i 0))) ∧ ∀ n ∈ zs, (Lit.int k n).wf = true
theorem IsRow.bytesAt {w : World} {a : Option Addr} {len cap : Nat} {zs : List Int} (h : IsRow .u8 w a len cap zs) : BytesAt w a len zs := by
  intro g
  rcases h with ⟨_, rfl, _, _⟩ | ⟨x, rfl, hl, _, hz, hc, _⟩
  · omega
  · obtain ⟨b, off, spot⟩ := x
    have h0 := hc 0 (by omega)
    have hspot : spot = none := by simpa [Addr.add] using World.cell?_spot h0
    subst hspot
    refine ⟨b, off, rfl, fun i hi => ?_⟩
    have hplain : (⟨b, off, none⟩ : Addr).add i = ⟨b, off + i, none⟩ := by unfold Addr.add; split <;> simp_all
    have := hc i (by omega)
    rw [hplain] at this
    simpa [List.getD] using this
theorem IsRow.len_le {w : World} {a : Option Addr} {len cap : Nat} {zs : List Int} (h : IsRow .u8 w a len cap zs) : len ≤ 9223372036854775807 := by
  rcases h with ⟨_, rfl, _, _⟩ | ⟨x, rfl, hl, hm, hz, hc, _⟩
  · omega
  · unfold maxLen at hm
    omega
theorem eqThr0 (w : World) : (binOp .eql 28 (.agg #[.int .i64 0, .int .i64 0, .int .i64 0, .int .i64 0, .int .i64 0]) (.agg #[.int .i64 0, .int .i64 0, .int .i64 0, .int .i64 0, .int .i64 0])).run Try.prog w = .ok (.bool true) w := by kernel_rfl
/-- The two numbers that the law counts: of the lines of a Partner, and of those that are over. -/
noncomputable def numS (q : ByteArray) (x : Int × Int) (c : OLn) : Int × Int := if isB q c = true then (x.1 + 1, if clZ (stT c) = true then x.2 + 1 else x.2) else x
noncomputable def numT (q : ByteArray) (rs : List OLn) : Int × Int := rs.foldl (numS q) (0, 0)
theorem numT_snoc {q : ByteArray} {rs : List OLn} {k : Nat} {c : OLn} (h : rs[k]? = some c) : numT q (rs.take (k + 1)) = numS q (numT q (rs.take k)) c := by
  rw [List.take_add_one, h]
  simp [numT]
theorem sum_fold (q : ByteArray) : ∀ (rs : List OLn) (t : Thr) (x : Int × Int), (∀ c ∈ rs, LnOk c) → t.nw + t.pt + t.wy + t.dn + t.gn = x.1 → t.dn + t.gn = x.2 →
    (rs.foldl (stp q) t).nw + (rs.foldl (stp q) t).pt + (rs.foldl (stp q) t).wy + (rs.foldl (stp q) t).dn + (rs.foldl (stp q) t).gn = (rs.foldl (numS q) x).1 ∧ (rs.foldl (stp q) t).dn + (rs.foldl (stp q) t).gn = (rs.foldl (numS q) x).2
  | [], t, x, _, h1, h2 => ⟨h1, h2⟩
  | c :: rs, t, x, hok, h1, h2 => by
    simp only [List.foldl_cons]
    have hz : 1 ≤ stT c ∧ stT c ≤ 5 := by rw [stT_yes (hok c List.mem_cons_self)]; exact stR_ran c
    refine sum_fold q rs _ _ (fun d hd => hok d (List.mem_cons_of_mem _ hd)) ?_ ?_
    · unfold stp numS
      cases isB q c with
      | false => exact h1
      | true =>
        obtain h | h | h | h | h : stT c = 1 ∨ stT c = 2 ∨ stT c = 3 ∨ stT c = 4 ∨ stT c = 5 := by omega
        all_goals simp [h, bmp]; omega
    · unfold stp numS
      cases isB q c with
      | false => exact h2
      | true =>
        obtain h | h | h | h | h : stT c = 1 ∨ stT c = 2 ∨ stT c = 3 ∨ stT c = 4 ∨ stT c = 5 := by omega
        all_goals simp [h, bmp, clZ]; omega
theorem cnt_num {q : ByteArray} {rs : List OLn} (hok : ∀ c ∈ rs, LnOk c) : (cntT q rs).nw + (cntT q rs).pt + (cntT q rs).wy + (cntT q rs).dn + (cntT q rs).gn = (numT q rs).1 ∧ (cntT q rs).dn + (cntT q rs).gn = (numT q rs).2 := sum_fold q rs thr0 (0, 0) hok rfl rfl
theorem num_le (q : ByteArray) : ∀ (rs : List OLn) (x : Int × Int) (n : Int), 0 ≤ x.1 ∧ x.1 ≤ n → 0 ≤ x.2 ∧ x.2 ≤ n → (0 ≤ (rs.foldl (numS q) x).1 ∧ (rs.foldl (numS q) x).1 ≤ n + rs.length) ∧ 0 ≤ (rs.foldl (numS q) x).2 ∧ (rs.foldl (numS q) x).2 ≤ n + rs.length
  | [], x, n, h1, h2 => by simpa using ⟨h1, h2⟩
  | c :: rs, x, n, h1, h2 => by
    have := num_le q rs (numS q x c) (n + 1) (by unfold numS; split <;> first | omega | (dsimp only; omega)) (by unfold numS; split <;> first | omega | (dsimp only; split <;> omega))
    simp only [List.foldl_cons, List.length_cons]
    have e : n + ((rs.length + 1 : Nat) : Int) = n + 1 + (rs.length : Int) := by omega
    rw [e]
    exact this
theorem numT_le (q : ByteArray) (rs : List OLn) : (0 ≤ (numT q rs).1 ∧ (numT q rs).1 ≤ rs.length) ∧ 0 ≤ (numT q rs).2 ∧ (numT q rs).2 ≤ rs.length := by
  have := num_le q rs (0, 0) 0 ⟨by simp, by simp⟩ ⟨by simp, by simp⟩
  simpa [numT] using this
theorem over_iff {c : OLn} (h : LnOk c) : (stT c = 4 ∨ stT c = 5) ↔ c.ordered = c.cut + c.got := by
  have h1 := h.o1
  have h3 := h.s0
  have h4 := h.g0
  have h5 := h.c0
  have h6 := h.gs
  have h8 := h.co
  rw [stT_yes h, stR]
  by_cases hA : thA c
  · rw [if_pos hA]
    unfold thA at hA
    omega
  · rw [if_neg hA]
    unfold thA at hA
    by_cases hE : thE c
    · rw [if_pos hE]
      unfold thE at hE
      omega
    · rw [if_neg hE]
      unfold thE at hE
      by_cases hY : thY c
      · rw [if_pos hY]
        omega
      · rw [if_neg hY]
        split <;> omega
theorem box5L {W : World} {b t : Nat} {x0 x1 x2 x3 x4 : Value} (h : W.heap[b]? = some (.cells #[x0, x1, x2, x3, x4] t)) : W.cell? ⟨b, 0, none⟩ = some x0 ∧ W.cell? ⟨b, 1, none⟩ = some x1 ∧ W.cell? ⟨b, 2, none⟩ = some x2 ∧ W.cell? ⟨b, 3, none⟩ = some x3 ∧ W.cell? ⟨b, 4, none⟩ = some x4 := by
  refine ⟨?_, ?_, ?_, ?_, ?_⟩ <;> simp [World.cell?, h]
set_option maxHeartbeats 16000000 in
theorem walk (a0 : Option Addr) (len0 cap0 : Nat) (z0 : List Int) (w : World) (w0 : IsRow .u8 w a0 len0 cap0 z0) :
    Calls Try.prog 3 #[.slice a0 len0 cap0] w fun e w' => e = .returned (.bool true) ∧ Below w.heap.size w w' := by
  have hl0 := w0.len_le
  have HR : Hid (BytesAt w a0 len0 z0) := w0.bytesAt
  clear w0
  by_cases hg : 1048576 < len0
  · have hg' : (1048576 : Int) < (len0 : Int) := by omega
    clear HR
    go_enter Try.func3, Try.ntmps3
    go_wp2
    go_ret
    exact ⟨rfl, Below.refl _ _⟩
  have hg' : (len0 : Int) ≤ 1048576 := by omega
  go_enter Try.func3, Try.ntmps3
  go_wp2_with fail
  refine (drawThreeCount_any a0 len0 cap0 z0 _ (by omega) HR.out).mono ?_
  rintro e w1 ⟨ad, C, rs, q, rfl, hr, hsm, hlen, hql, hb1⟩
  have H1 : Hid (Below w.heap.size w w1 ∧ RowOl w1 (.slice (some ad) rs.length C) rs) := ⟨hb1, hr⟩
  clear hr hsm hb1 HR
  go_wp2_with fail
  refine (linesRight_spec _ rs _ H1.out.2).mono ?_
  rintro e w2 ⟨rfl, hb2⟩
  have H2 : Hid (Below w.heap.size w w2 ∧ RowOl w2 (.slice (some ad) rs.length C) rs) := ⟨H1.out.1.trans (hb2.mono H1.out.1.size), H1.out.2.below hb2⟩
  clear hb2 H1
  have ha2 : Below w2.heap.size w2 (w2.alloc (.cells #[] 31)) := (Below.refl _ _).alloc (Nat.le_refl _) _
  have hown : (w2.alloc (.cells #[] 31)).ownsRow w2.heap.size 31 8 (.slice (some ⟨w2.heap.size, 0, none⟩) 0 0) 0 [] := own0Ol w2 (Nat.le_refl _)
  have hrow := H2.out.2.below ha2
  have HA : Hid (Below w2.heap.size w2 (w2.alloc (.cells #[] 31))) := ha2
  clear ha2
  have QI := fun v W (hv : RowOl W v rs) => threeCount_impl v rs q W hv (by omega)
  cases hx : lnsB rs with
  | false =>
    rw [show thcT rs q = thr0 by rw [thcT, if_neg (by simp [hx])]] at QI
    have QI : Hid (∀ v W, RowOl W v rs → Calls Try.prog 8 #[v, .string q] W fun e w' => e = .returned (.agg #[.int .i64 0, .int .i64 0, .int .i64 0, .int .i64 0, .int .i64 0]) ∧ Below W.heap.size W w') := QI
    have ez := eqThr0
    clear hx
    go_wp2_with (first | (at_builtin; refine wpList_copyOl (by rfl) _ _ rfl rfl rfl hown hrow (by omega) (by simp) ?_; intro A3 C3 w3 hr3 hA3 hb3; have H3 : Hid (Below w.heap.size w w3) := H2.out.1.trans ((HA.out.trans hb3).mono H2.out.1.size); clear hb3 hA3 hown hrow) | (go_at_call 8; refine (QI.out _ _ hr3).mono ?_; rintro e w4 ⟨rfl, hb4⟩; have H4 : Hid (Below w.heap.size w w4) := H3.out.trans (hb4.mono H3.out.size); clear hb4 hr3))
    go_ret
    exact ⟨by first | rfl | simp, H4.out⟩
  | true =>
    have hok : RightL rs := lnsB_iff.1 hx
    rw [show thcT rs q = cntT q rs by rw [thcT, if_pos ⟨by omega, hx⟩]] at QI
    obtain ⟨t, ht⟩ : ∃ t, t = cntT q rs := ⟨_, rfl⟩
    rw [← ht] at QI
    have QI : Hid (∀ v W, RowOl W v rs → Calls Try.prog 8 #[v, .string q] W fun e w' => e = .returned (.agg #[.int .i64 t.nw, .int .i64 t.pt, .int .i64 t.wy, .int .i64 t.dn, .int .i64 t.gn]) ∧ Below W.heap.size W w') := QI
    have HT : Hid (t.nw + t.pt + t.wy + t.dn + t.gn = (numT q rs).1 ∧ t.dn + t.gn = (numT q rs).2 ∧ ThLe t 1000 ∧ ∀ c ∈ rs, LnOk c) := by
      refine ⟨?_, ?_, ?_, hok.ok⟩
      · rw [ht]; exact (cnt_num hok.ok).1
      · rw [ht]; exact (cnt_num hok.ok).2
      · rw [ht]; exact (cntT_le q rs).mono (by omega)
    clear hx ht hok
    go_upto_region 7 with (first | (at_builtin; refine wpList_copyOl (by rfl) _ _ rfl rfl rfl hown hrow (by omega) (by simp) ?_; intro A3 C3 w3 hr3 hA3 hb3; have H3 : Hid (Below w.heap.size w w3) := H2.out.1.trans ((HA.out.trans hb3).mono H2.out.1.size); have HL3 : Hid (RowOl w3 (.slice (some ad) rs.length C) rs) := H2.out.2.below (HA.out.trans hb3); clear hb3 hA3 hown hrow) | (go_at_call 8; refine (QI.out _ _ hr3).mono ?_; rintro e w4 ⟨rfl, hb4⟩; have H4 : Hid (Below w.heap.size w w4 ∧ RowOl w4 (.slice (some ad) rs.length C) rs) := ⟨H3.out.trans (hb4.mono H3.out.size), HL3.out.below hb4⟩; clear hb4 hr3))
    obtain ⟨W5, hW5⟩ : ∃ W5, w4.alloc (.cells #[.int .i64 t.nw, .int .i64 t.pt, .int .i64 t.wy, .int .i64 t.dn, .int .i64 t.gn] 28) = W5 := ⟨_, rfl⟩
    have hb5 : Below w4.heap.size w4 W5 := by rw [← hW5]; exact (Below.refl _ _).alloc (Nat.le_refl _) _
    have i5 : W5.heap[w4.heap.size]? = some (.cells #[.int .i64 t.nw, .int .i64 t.pt, .int .i64 t.wy, .int .i64 t.dn, .int .i64 t.gn] 28) := by rw [← hW5]; exact World.alloc_heap_new _ _
    obtain ⟨P, hP⟩ : ∃ P, P = w4.heap.size := ⟨_, rfl⟩
    rw [← hP] at i5
    have H5 : Hid (∀ W, Below W5.heap.size W5 W → Below w.heap.size w W ∧ RowOl W (.slice (some ad) rs.length C) rs ∧ W.heap[P]? = some (.cells #[.int .i64 t.nw, .int .i64 t.pt, .int .i64 t.wy, .int .i64 t.dn, .int .i64 t.gn] 28)) := fun W hW => by
      have h1 := H4.out.1.trans (hb5.mono H4.out.1.size)
      exact ⟨h1.trans (hW.mono h1.size), (H4.out.2.below hb5).below hW, (hW.block P (Array.getElem?_eq_some_iff.1 i5).1).trans i5⟩
    try rw [hW5]
    try rw [← hP]
    clear hW5 hb5 i5 hP H4 H3 HL3 QI HA H2
    go_wp2_with fail
    go_loopw [6, 7, 8] (fun n m i wr => ∃ k : Nat, i = .int .i64 (k : Int) ∧ k ≤ rs.length ∧ n = .int .i64 (numT q (rs.take k)).1 ∧ m = .int .i64 (numT q (rs.take k)).2 ∧ Hid (Below W5.heap.size W5 wr)) (fun _ _ i _ => rs.length - (intOf i).toNat)
    case atStart => exact ⟨0, rfl, by omega, rfl, rfl, Below.refl _ _⟩
    case round =>
      obtain ⟨k, rfl, hk, rfl, rfl, HW⟩ := hrel
      by_cases hlt : k < rs.length
      · have hlt' : (k : Int) < (rs.length : Int) := by omega
        obtain ⟨b, o, cap', c, e, hs, ⟨q0, q1, q2, q3, q4, q5, q6, q7⟩, _⟩ := (H5.out _ HW.out).2.1.at hlt
        simp only [Value.slice.injEq, Option.some.injEq, true_and] at e
        obtain ⟨rfl, rfl⟩ := e
        have hok := HT.out.2.2.2 c (List.mem_of_getElem? hs)
        obtain ⟨z, hz⟩ : ∃ z, z = stT c := ⟨_, rfl⟩
        have hov : (z = 4 ∨ z = 5) ↔ c.ordered = c.cut + c.got := by rw [hz]; exact over_iff hok
        have hzr : 1 ≤ z ∧ z ≤ 5 := by rw [hz, stT_yes hok]; exact stR_ran c
        have hwr : IntKind.i64.wrap (c.cut + c.got) = c.cut + c.got := by
          have := hok.o2
          have := hok.g0
          have := hok.c0
          have := hok.gs
          have := hok.so
          have := hok.co
          rw [IntKind.wrap_i64]; omega
        have QT := threeOf_impl c
        rw [← hz] at QT
        have HN := numT_snoc (q := q) hs
        obtain ⟨⟨l1, l2⟩, l3, l4⟩ := numT_le q (rs.take k)
        have hkl : (rs.take k).length ≤ 250 := by rw [List.length_take]; omega
        obtain ⟨x, hx⟩ : ∃ x, x = numT q (rs.take k) := ⟨_, rfl⟩
        rw [← hx] at HN l1 l2 l3 l4 ⊢
        obtain ⟨xn, xm⟩ := x
        dsimp only at l1 l2 l3 l4 ⊢
        have HN : Hid (numT q (rs.take (k + 1)) = if isB q c = true then (xn + 1, if (decide (z = 4 ∨ z = 5)) = true then xm + 1 else xm) else (xn, xm)) := by show _ = _; rw [HN, numS, ← hz]; rfl
        have hw1 : IntKind.i64.wrap (xn + 1) = xn + 1 := by rw [IntKind.wrap_i64]; omega
        have hw2 : IntKind.i64.wrap (xm + 1) = xm + 1 := by rw [IntKind.wrap_i64]; omega
        clear hs hz hok hx l1 l2 l3 l4 hkl
        obtain ⟨W6, hW6⟩ : ∃ W6, wr.alloc (.cells #[.string c.partner, .string c.ref, .int .i64 c.no, .string c.item, .int .i64 c.ordered, .int .i64 c.sent, .int .i64 c.got, .int .i64 c.cut] 31) = W6 := ⟨_, rfl⟩
        have hb6 : Below wr.heap.size wr W6 := by rw [← hW6]; exact (Below.refl _ _).alloc (Nat.le_refl _) _
        have i6 : W6.heap[wr.heap.size]? = some (.cells #[.string c.partner, .string c.ref, .int .i64 c.no, .string c.item, .int .i64 c.ordered, .int .i64 c.sent, .int .i64 c.got, .int .i64 c.cut] 31) := by rw [← hW6]; exact World.alloc_heap_new _ _
        obtain ⟨B, hB⟩ : ∃ B, B = wr.heap.size := ⟨_, rfl⟩
        rw [← hB] at i6
        have H6 : Hid (Below W5.heap.size W5 W6 ∧ W6.heap[B]? = some (.cells #[.string c.partner, .string c.ref, .int .i64 c.no, .string c.item, .int .i64 c.ordered, .int .i64 c.sent, .int .i64 c.got, .int .i64 c.cut] 31)) := ⟨HW.out.trans (hb6.mono HW.out.size), i6⟩
        have HW6 : Hid (wr.alloc (.cells #[.string c.partner, .string c.ref, .int .i64 c.no, .string c.item, .int .i64 c.ordered, .int .i64 c.sent, .int .i64 c.got, .int .i64 c.cut] 31) = W6 ∧ B = wr.heap.size) := ⟨hW6, hB⟩
        clear hW6 hb6 i6 hB
        go_upto_region 13 with fail
        try rw [HW6.out.1]
        try rw [← HW6.out.2]
        clear HW6 q0 q1 q2 q3 q4 q5 q6 q7
        obtain ⟨c0, c1, c2, c3, c4, c5, c6, c7⟩ := box8 H6.out.2
        go_wp2_with fail
        refine (QT _).mono ?_
        rintro e w7 ⟨rfl, hb7⟩
        have H7 : Hid (Below W5.heap.size W5 w7 ∧ w7.heap[B]? = some (.cells #[.string c.partner, .string c.ref, .int .i64 c.no, .string c.item, .int .i64 c.ordered, .int .i64 c.sent, .int .i64 c.got, .int .i64 c.cut] 31)) := ⟨H6.out.1.trans (hb7.mono H6.out.1.size), (hb7.block B (Array.getElem?_eq_some_iff.1 H6.out.2).1).trans H6.out.2⟩
        clear hb7 QT c0 c1 c2 c3 c4 c5 c6 c7
        obtain ⟨c0, c1, c2, c3, c4, c5, c6, c7⟩ := box8 H7.out.2
        have hq3 : q.toList.isEmpty = true ∨ (q.toList.isEmpty = false ∧ (c.partner.toList == q.toList) = true) ∨ (q.toList.isEmpty = false ∧ (c.partner.toList == q.toList) = false) := by
          cases q.toList.isEmpty <;> cases (c.partner.toList == q.toList) <;> simp
        obtain ⟨ib, hib⟩ : ∃ ib, ib = isB q c := ⟨_, rfl⟩
        rw [← hib] at HN
        have HI : Hid (ib = (q.toList.isEmpty || (c.partner.toList == q.toList))) := hib
        clear hib
        have hz3 : z = 4 ∨ z = 5 ∨ (¬ z = 4 ∧ ¬ z = 5) := by omega
        rcases hz3 with rfl | rfl | ⟨h4, h5⟩
        case inr.inr =>
          have hne : ¬ c.ordered = c.cut + c.got := fun e => by have := hov.2 e; omega
          have hn1 : ¬ z < 1 := by omega
          have hn2 : ¬ z > 5 := by omega
          have g4 : (z == 4) = false := by simp [h4]
          have g5 : (z == 5) = false := by simp [h5]
          have gE : (c.ordered == c.cut + c.got) = false := by simp [hne]
          have HV : Hid (numT q (rs.take (k + 1)) = if ib = true then (xn + 1, xm) else (xn, xm)) := by show _ = _; rw [HN.out]; simp [h4, h5]
          clear hov h4 h5 hne
          rcases hq3 with e1 | ⟨e1, e2⟩ | ⟨e1, e2⟩
          case inr.inr =>
            have HV2 : Hid (numT q (rs.take (k + 1)) = (xn, xm)) := by show _ = _; rw [HV.out, HI.out, e1, e2]; rfl
            go_wp2
            go_roundw
            case rel => exact ⟨k + 1, by go_num, by omega, by rw [HV2.out], by rw [HV2.out], H7.out.1⟩
            case measure => simp [intOf]; omega
          all_goals have HV2 : Hid (numT q (rs.take (k + 1)) = (xn + 1, xm)) := by (show _ = _; rw [HV.out, HI.out, e1]; first | rfl | (rw [e2]; rfl))
          all_goals go_wp2
          all_goals go_roundw
          all_goals first | (case' rel => exact ⟨k + 1, by go_num, by omega, by rw [HV2.out], by rw [HV2.out], H7.out.1⟩) | skip
          all_goals simp [intOf]; omega
        all_goals have heq : c.ordered = c.cut + c.got := hov.1 (by omega)
        all_goals have gE : (c.ordered == c.cut + c.got) = true := by simp [heq]
        all_goals clear hov heq
        all_goals have HV : Hid (numT q (rs.take (k + 1)) = if ib = true then (xn + 1, xm + 1) else (xn, xm)) := by (show _ = _; rw [HN.out]; rfl)
        all_goals rcases hq3 with e1 | ⟨e1, e2⟩ | ⟨e1, e2⟩
        case inl.inr.inr | inr.inl.inr.inr =>
          have HV2 : Hid (numT q (rs.take (k + 1)) = (xn, xm)) := by show _ = _; rw [HV.out, HI.out, e1, e2]; rfl
          go_wp2
          go_roundw
          case rel => exact ⟨k + 1, by go_num, by omega, by rw [HV2.out], by rw [HV2.out], H7.out.1⟩
          case measure => simp [intOf]; omega
        all_goals have HV2 : Hid (numT q (rs.take (k + 1)) = (xn + 1, xm + 1)) := by (show _ = _; rw [HV.out, HI.out, e1]; first | rfl | (rw [e2]; rfl))
        all_goals go_wp2
        all_goals go_roundw
        all_goals first | (case' rel => exact ⟨k + 1, by go_num, by omega, by rw [HV2.out], by rw [HV2.out], H7.out.1⟩) | skip
        all_goals simp [intOf]; omega
      · obtain rfl : k = rs.length := by omega
        rw [List.take_length]
        have h1 := HT.out.1
        have h2 := HT.out.2.1
        obtain ⟨⟨l1, g1⟩, ⟨l2, g2⟩, ⟨l3, g3⟩, ⟨l4, g4⟩, ⟨l5, g5⟩⟩ := HT.out.2.2.1
        obtain ⟨_, _, hbx⟩ := H5.out _ HW.out
        obtain ⟨c0, c1, c2, c3, c4⟩ := box5L hbx
        obtain ⟨y, hy⟩ : ∃ y, y = numT q rs := ⟨_, rfl⟩
        rw [← hy] at h1 h2 ⊢
        obtain ⟨yn, ym⟩ := y
        dsimp only at h1 h2 ⊢
        have hw1 : IntKind.i64.wrap (t.nw + t.pt) = t.nw + t.pt := by rw [IntKind.wrap_i64]; omega
        have hw2 : IntKind.i64.wrap (t.nw + t.pt + t.wy) = t.nw + t.pt + t.wy := by rw [IntKind.wrap_i64]; omega
        have hw3 : IntKind.i64.wrap (t.nw + t.pt + t.wy + t.dn) = t.nw + t.pt + t.wy + t.dn := by rw [IntKind.wrap_i64]; omega
        have hw4 : IntKind.i64.wrap (t.nw + t.pt + t.wy + t.dn + t.gn) = yn := by rw [IntKind.wrap_i64]; omega
        have hw5 : IntKind.i64.wrap (t.dn + t.gn) = ym := by rw [IntKind.wrap_i64]; omega
        clear hy h1 h2 hbx
        go_wp2
        go_ret
        exact ⟨by first | rfl | simp, (H5.out _ HW.out).1⟩
theorem own : ownKnob Try.prog.godebug = none := by kernel_rfl
theorem laidOut : laidOutB Try.prog = true := by kernel_rfl
set_option maxRecDepth 100000 in
theorem lifted (os : Os) (started : os.Started) (H : Type) (enc : TypeId × Value → H) :
    ReturnsInHanded {} Try.checked os 3 .any (Rows.fnThreesSpec.pre6 enc Try.prog Try.f3 Rows.fnThreesRow.domain false) (Rows.fnThreesSpec.post enc Try.prog Try.f3 false true false false) := by
  refine returnsInHanded_of_change (C := Try.checked) own started (by kernel_rfl) Try.func3
    (ChangeSpec.witness6 (enc := enc) (C := Try.checked) false ⟨#[], #[.slice none 0 0], []⟩ 8 (by kernel_rfl) (by kernel_rfl) (by kernel_rfl) (by kernel_rfl)) ?_
  intro W base args ds gs before hval0 hW hcnd _
  have hval : ∀ (j : Nat) t v, Try.f3.params[j]? = some t → args[j]? = some v → Value.okWide Try.prog W .any base t v := hval0
  have hW' := hW
  obtain ⟨p, q, hA0, hV, rfl, hfz, hnd⟩ := hW
  have hA : DataW.TrodAll enc Try.prog W 0 (fun _ => true) true Try.f3.params.toList args.toList ds p := hA0
  rw [Try.params3] at hA hval
  obtain ⟨v0, vs0, d0, ds0, p0, q0, hargs, rfl, rfl, h0, r0⟩ := trodAll_cons hA
  obtain ⟨rfl, rfl, rfl⟩ := trodAll_nil r0
  obtain rfl : args = #[v0] := by cases args; simp_all
  obtain ⟨rfl, rfl⟩ := trodVars_none hV
  obtain ⟨a0, len0, cap0, rfl⟩ := okWide_slice Try.underlying22 (hval 0 22 v0 rfl rfl)
  have k0 := h0
  have lt0 : ∀ x ∈ p0, x.block < W.heap.size := by obtain ⟨m, hm⟩ := k0; exact DataW.trod_lt m _ _ _ hm
  obtain ⟨z0, w0⟩ : ∃ zs, IsRow .u8 W a0 len0 cap0 zs := by
    obtain ⟨fuel, hf⟩ := h0
    rcases open_ints Try.underlying22 Try.underlying5 (by kernel_rfl) hf with ⟨hcs, _⟩ | ⟨x, l, c, zs, hcs, _, hl, hm, hz, _, hcell, hwz⟩
    · simp [Value.cells] at hcs
      obtain ⟨rfl, rfl, rfl⟩ := hcs
      exact ⟨[], .inl ⟨rfl, rfl, rfl, rfl⟩⟩
    · simp [Value.cells] at hcs
      obtain ⟨rfl, rfl, rfl⟩ := hcs
      exact ⟨zs, .inr ⟨_, rfl, hl, hm, by simpa using hz, hcell, hwz⟩⟩
  clear hA0 hval0
  refine (walk a0 len0 cap0 z0 W w0).mono fun e W' ⟨he, bel⟩ => ?_
  subst he
  exact ⟨_, rfl, _, _, _, [], _, [], hW', trodAll_mk1 (shut_bool Try.underlying4 _), (trodAll_cons_mk (Below.trod laidOut (by kernel_rfl) (of_decide_eq_true (by kernel_rfl)) k0 bel lt0) trodAll_mk0), rfl, bel.frame _, fun h => by cases h⟩
theorem over : Rows.fnThreesRow.holds Try.pinned (OpenSpec.ofChange Rows.fnThreesSpec) :=
  OpenClaim.holds_of_wide 3 Try.f3 rfl rfl rfl rfl rfl rfl rfl ⟨rfl, rfl, rfl, rfl, rfl⟩ rfl rfl rfl rfl rfl (by kernel_rfl) Try.func3 (by kernel_rfl)
    (of_decide_eq_true (by kernel_rfl)) (by unfold Func.isWrapper; first | (rw [if_pos (by decide +kernel)]; kernel_rfl) | (rw [if_neg (by decide +kernel)]; exact ⟨rfl, rfl⟩))
    (fun os started H enc _ => lifted os started H enc)
end fnThrees
theorem fnThrees_holds : Rows.FnThreesSaid := fnThrees.over
#print axioms fnThrees_holds
end Go.Proofs.Ytppfobeencnbdaa
