/- Texts of ours put together: PsF. -/
import Derived.Test.YtkaolpnbddjdpaaGreatDoorG29
import Derived.Test.YtkaolpnbddjdpaaGreatDoorG24
import Derived.Test.YtkaolpnbddjdpaaGreatDoorG31
import Derived.Test.YtkaolpnbddjdpaaGreatDoorG32
import Derived.Deep.Cut
import Derived.Deep.CutRange
namespace Go.Proofs.YtkaolpnbddjdpaaGreatDoor
open Go.ChangeShapes Go.WideShapes Go.ChangeAt Go.RowKit
/-- What the model's PaperOf tells of a told body. -/
def PoS (p : Pap) (w : World) (e : Ending) (w' : World) : Prop :=
  Below w.heap.size w w' ∧ ((∃ vn vl, e = .returned (.agg #[.int .i64 (rdP lnS p).kind, .string (rdP lnS p).ref, .string (rdP lnS p).other, .int .i64 (rdP lnS p).day, vn, vl, .int .i64 0, .int .i64 0]) ∧ PapR w' vn vl (rdP lnS p) ∧ (tcV p.kind (bodyW wordsS p)).2.2 = 0 ∧ PlcOk p.kind (p.lines.map (lnS p.kind))) ∨
    (∃ a c : Int, e = .returned (.agg #[.int .i64 0, .string ⟨#[]⟩, .string ⟨#[]⟩, .int .i64 0, .slice none 0 0, .slice none 0 0, .int .i64 a, .int .i64 c]) ∧ c ≠ 0 ∧ ¬ ((tcV p.kind (bodyW wordsS p)).2.2 = 0 ∧ PlcOk p.kind (p.lines.map (lnS p.kind)))))
theorem set6P {W : World} {b t : Nat} {x0 x1 x2 x3 x4 x5 y0 y1 y2 y3 y4 y5 : Value} (h : W.heap[b]? = some (.cells #[x0, x1, x2, x3, x4, x5] t)) :
    ((((((W.setCell ⟨b, 0, none⟩ y0).setCell ⟨b, 1, none⟩ y1).setCell ⟨b, 2, none⟩ y2).setCell ⟨b, 3, none⟩ y3).setCell ⟨b, 4, none⟩ y4).setCell ⟨b, 5, none⟩ y5).heap[b]? = some (.cells #[y0, y1, y2, y3, y4, y5] t) := by
  simp [World.setCell, Array.getElem?_modify, h]
theorem setB6P {n P : Nat} {a W : World} {y0 y1 y2 y3 y4 y5 : Value} (h : Below n a W) (hP : n ≤ P) : Below n a ((((((W.setCell ⟨P, 0, none⟩ y0).setCell ⟨P, 1, none⟩ y1).setCell ⟨P, 2, none⟩ y2).setCell ⟨P, 3, none⟩ y3).setCell ⟨P, 4, none⟩ y4).setCell ⟨P, 5, none⟩ y5) :=
  (((((h.setCell hP _).setCell hP _).setCell hP _).setCell hP _).setCell hP _).setCell hP _
theorem rd_otherS {p : Pap} (h : p.other.size ≤ 1048576) : (rdP lnS p).other.size ≤ 9223372036854775807 := by
  unfold rdP
  show (if hasO p.kind = true then p.other else eT).size ≤ _
  split
  · omega
  · exact Nat.zero_le _
/-- An append of one line, at the list of a plain region's operations. -/
theorem wpList_appLn {ops : Array Oper} {rest : List Oper} {o : Oper} {a : Act} {Q : Exit → Act → World → Prop} {W : World} {base c C : Nat} {lv : Value} {ss : List Ln} {t : Ln} (hgd : o.guard = none) (s x : Operand)
    (ho : o.op = .call { callee := .builtin .append, args := #[s, x], argTypes := #[64, 64] })
    (hs' : a.eval s = lv) (hx : a.eval x = .slice (some ⟨c, 0, none⟩) 1 C) (h : W.ownsRow base 121 5 lv ss.length (clLs ss)) (hg : ∀ j u, (clL t)[j]? = some u → W.cell? ((⟨c, 0, none⟩ : Addr).add j) = some u) (hl : ss.length + 1 ≤ 2000000) (hbase : base ≤ W.heap.size)
    (k : ∀ v' w', w'.ownsRow base 121 5 v' (ss.length + 1) (clLs ss ++ clL t) → W.grownBy w' lv.ownBlock → (∃ A C, v' = .slice A (ss.length + 1) C) → wpList Tryz.prog ops Q rest (a.put o.dst v') w') : wpList Tryz.prog ops Q (o :: rest) a W := by
  obtain ⟨i0, hi, hz0, hz1, hz2⟩ := info_parts infoLn
  refine wpList_append_own W hgd s x 64 ho base 121 i0 _ 5 56 Tryz.underlying64 hi hz0 hz1 hz2 rfl (by decide) lv ss.length (clLs ss) hs' h ⟨c, 0, none⟩ 1 C (clL t) hx rfl hg (by simp [Value.oneCell', clL]) (by unfold maxLen; omega) (by omega) hbase ?_
  intro v' w' hown hgrow hnil
  refine k v' w' hown hgrow ?_
  rcases hown.2 with ⟨rfl, h0⟩ | ⟨b, cap, cur, rfl, _⟩
  · omega
  · exact ⟨_, _, rfl⟩
theorem prS_1 (p : Pap) : prS p 1 = ⟨p.kind, p.ref, selB (hasO p.kind) p.other eT, p.day, [], []⟩ := by
  unfold prS
  simp
theorem PS.start {w wy : World} {P : Nat} {q : Pap} (hr : wy.heap[w.heap.size]? = some (.cells #[.int .i64 0, .string ⟨#[]⟩, .string ⟨#[]⟩, .int .i64 0, .slice none 0 0, .slice none 0 0, .int .i64 0, .int .i64 0] 127)) (hb : wy.heap[P]? = some (.cells #[.int .i64 q.kind, .string q.ref, .string q.other, .int .i64 q.day, .slice none 0 0, .slice none 0 0] 66)) (hP : w.heap.size < P) (hbel : Below w.heap.size w wy) (hn : q.notes = []) (hl : q.lines = []) : PS w wy P q (.slice none 0 0) (.slice none 0 0) :=
  ⟨hr, hb, hP, by rw [hn]; exact World.ownsRow_nil _ _ _ _, by rw [hl]; exact World.ownsRow_nil _ _ _ _, hbel⟩
set_option maxRecDepth 20000 in
set_option maxHeartbeats 16000000 in
theorem paperOf_spec (p : Pap) (v : Value) (w : World) (hI : PapI p) (hB : BdP 1048576 p) (hl20 : p.lines.length ≤ 20) (hn40 : p.notes.length ≤ 40) (h : RowG w v (bodyW wordsS p)) :
    Calls Tryz.prog 77 #[.int .i64 p.kind, v] w fun e w' => PoS p w e w' := by
  have hb1 := body_bd1S hI hB
  have hlen : (bodyW wordsS p).length = 1 + (p.notes.length + p.lines.length) := body_len wordsS p
  obtain ⟨A, C, rfl⟩ := h.val
  obtain ⟨N, hN⟩ : ∃ N, N = (bodyW wordsS p).length := ⟨_, rfl⟩
  obtain ⟨W0, hW0⟩ : ∃ W0, w.alloc (.cells #[.int .i64 0, .string ⟨#[]⟩, .string ⟨#[]⟩, .int .i64 0, .slice none 0 0, .slice none 0 0, .int .i64 0, .int .i64 0] 127) = W0 := ⟨_, rfl⟩
  have hb0 : Below w.heap.size w W0 := by rw [← hW0]; exact (Below.refl _ _).alloc (Nat.le_refl _) _
  have x0 : W0.heap[w.heap.size]? = some (.cells #[.int .i64 0, .string ⟨#[]⟩, .string ⟨#[]⟩, .int .i64 0, .slice none 0 0, .slice none 0 0, .int .i64 0, .int .i64 0] 127) := by rw [← hW0]; exact World.alloc_heap_new _ _
  have hs0 : W0.heap.size = w.heap.size + 1 := by rw [← hW0]; simp
  have HX : Hid (∀ W, Below W0.heap.size W0 W → W.heap[w.heap.size]? = some (.cells #[.int .i64 0, .string ⟨#[]⟩, .string ⟨#[]⟩, .int .i64 0, .slice none 0 0, .slice none 0 0, .int .i64 0, .int .i64 0] 127)) := fun W hW => (hW.block _ (by omega)).trans x0
  obtain ⟨tcr, htcr⟩ : ∃ tcr, tcr = tcV p.kind (bodyW wordsS p) := ⟨_, rfl⟩
  have QT : Hid (Calls Tryz.prog 115 #[.int .i64 p.kind, .slice A N C] W0 fun e w' => e = .returned (tcVal tcr) ∧ Below W0.heap.size W0 w') := by
    rw [hN, htcr]
    exact tableCheck_spec p.kind _ (bodyW wordsS p) W0 (h.below hb0) (hb1.bdG (by omega))
  have HR : Hid (RowG W0 (.slice A N C) (bodyW wordsS p) ∧ Below w.heap.size w W0 ∧ W0.heap.size = w.heap.size + 1 ∧ PapI p ∧ BdP 1048576 p ∧ N = (bodyW wordsS p).length ∧ (bodyW wordsS p).length = 1 + (p.notes.length + p.lines.length) ∧ tcr = tcV p.kind (bodyW wordsS p)) := ⟨by rw [hN]; exact h.below hb0, hb0, hs0, hI, hB, hN, hlen, htcr⟩
  have HRw : Hid (RowG w (.slice A N C) (bodyW wordsS p)) := by show RowG _ _ _; rw [hN]; exact h
  have hNb : N ≤ 61 := by omega
  obtain ⟨ta, te, tcc⟩ := tcr
  rw [← hN]
  clear h hb1 hlen hN htcr hb0 x0 hs0
  go_enter Tryz.func77, Tryz.ntmps77
  go_upto_region 1 with fail
  try rw [hW0]
  clear hW0
  go_wp2_with fail
  refine QT.out.mono ?_
  rintro e w1 ⟨rfl, hb1⟩
  unfold tcVal
  obtain ⟨W2, hW2⟩ : ∃ W2, w1.alloc (.cells #[.int .i64 ta, .int .i64 te, .int .i64 tcc] 156) = W2 := ⟨_, rfl⟩
  have b2 : Below W0.heap.size W0 W2 := by rw [← hW2]; exact hb1.trans (((Below.refl _ _).alloc (Nat.le_refl _) _).mono hb1.size)
  have y2 : W2.heap[w1.heap.size]? = some (.cells #[.int .i64 ta, .int .i64 te, .int .i64 tcc] 156) := by rw [← hW2]; exact World.alloc_heap_new _ _
  obtain ⟨t0, t1, t2⟩ := box3o y2
  obtain ⟨X, hX⟩ : ∃ X, X = w1.heap.size := ⟨_, rfl⟩
  rw [← hX] at t0 t1 t2
  have H2 : Hid (Below W0.heap.size W0 W2 ∧ Below w.heap.size w W2) := ⟨b2, HR.out.2.1.trans (b2.mono HR.out.2.1.size)⟩
  have HD : Hid (w1.alloc (.cells #[.int .i64 ta, .int .i64 te, .int .i64 tcc] 156) = W2 ∧ X = w1.heap.size) := ⟨hW2, hX⟩
  clear hW2 hX b2 y2 hb1 QT
  go_upto_region 2 with fail
  try rw [HD.out.1]
  try rw [← HD.out.2]
  clear HD
  have rr := HX.out W2 H2.out.1
  obtain ⟨r0, r1, r2, r3, r4, r5, r6, r7⟩ := box8o rr
  have rz := frz5 rr
  by_cases hc0 : tcc = 0
  · subst hc0
    have HT : Hid ((tcV p.kind (bodyW wordsS p)).2.2 = 0) := by show _ = _; rw [← HR.out.2.2.2.2.2.2.2]
    have hk := (tcV_each HT.out).1
    have hlt0 : 0 < (bodyW wordsS p).length := by rw [HR.out.2.2.2.2.2.2.1]; omega
    have hN0 : 0 < N := by rw [HR.out.2.2.2.2.2.1]; exact hlt0
    have hs : (bodyW wordsS p)[0]? = some (hdS sDOC (docW p)) := rfl
    obtain ⟨b, o, cap', g', u, e, hs', q0, q1, hE, _⟩ := (HR.out.1.below H2.out.1).at hlt0
    rw [hs] at hs'
    simp only [Option.some.injEq] at hs'
    subst hs'
    have hE' : RowE W2 u ((docW p).map fun t => [t]) := hE
    have q0' : W2.cell? ⟨b, o, none⟩ = some (.string sDOC) := by have := q0; rw [Nat.zero_mul, Nat.add_zero] at this; exact this
    simp only [Nat.zero_mul, Nat.add_zero] at q1
    obtain ⟨Au, Cu, hu⟩ := hE'.val
    rw [List.length_map] at hu
    subst hu
    simp only [Value.slice.injEq] at e
    obtain ⟨rfl, hNe, rfl⟩ := e
    have hbd := bdE_w (docW_lenS p) (docW_bd hI.1 ⟨hB.1, hB.2.1⟩)
    have HD : Hid (RowE W2 (.slice Au (docW p).length Cu) ((docW p).map fun t => [t]) ∧ BdE 1048576 ((docW p).map fun t => [t]) ∧ ∀ W, Below W2.heap.size W2 W → W.cell? ⟨b, o, none⟩ = some (.string sDOC) ∧ W.cell? ⟨b, o + 1, none⟩ = some (.slice Au (docW p).length Cu)) := ⟨hE', hbd, fun W hW => ⟨(hW.cell (cell_lt q0')).trans q0', (hW.cell (cell_lt q1)).trans q1⟩⟩
    clear q0 hE hE' hs hbd hNe r0 r1 r2 r3 r4 r5 r6 r7 rr rz
    go_upto_region 4 with fail
    clear t0 t1 t2
    have qn0 : b ≠ W2.heap.size := Nat.ne_of_lt (cell_lt q0')
    have qm0 : W2.heap.size ≠ b := Ne.symm qn0
    go_cut [6] from 22 to 31 (fun s6 wx => ∃ P n, s6 = .pointer (some ⟨P, 0, none⟩) ∧ W2.heap.size ≤ P ∧ wx.heap[P]? = some (.cells #[.int .i64 p.kind, .string (partF ((docW p).map fun t => [t]) 0 0), .string ⟨#[]⟩, .int .i64 n, .slice none 0 0, .slice none 0 0] 66) ∧ Below W2.heap.size W2 wx ∧ ∀ m, NumE ((docW p).map fun t => [t]) 1 m → n = m)
    case first =>
      go_region_held3 (fun W => W.cell? ⟨b, o, none⟩ = some (.string sDOC) ∧ W.cell? ⟨b, o + 1, none⟩ = some (.slice Au (docW p).length Cu)) (go_keep) (first | (go_at_call 116; refine (part_spec sDOC _ _ 0 0 _ (by with_reducible first | exact HD.out.1 | exact HD.out.1.below (Below.refl _ _).drew | exact HD.out.1.below ((Below.refl _ _).alloc (Nat.le_refl _) _) | exact HD.out.1.below (((Below.refl _ _).alloc (Nat.le_refl _) _).drew)) HD.out.2.1).mono ?_; rintro e wa ⟨rfl, hba⟩; have ba : Below W2.heap.size W2 wa := (by with_reducible first | exact hba | exact undrewP hba | exact unallocP hba | exact unallocP (undrewP hba) | exact undrewP (unallocP hba) : Below W2.heap.size W2 wa); have Ra := HD.out.1.below ba; obtain ⟨g0, g1⟩ := HD.out.2.2 wa ba; obtain ⟨h0, h1⟩ := HD.out.2.2 wa.drew ba.drew; obtain ⟨i0, i1⟩ := HD.out.2.2 (wa.alloc (.cells #[.int .i64 0, .string ⟨#[]⟩, .string ⟨#[]⟩, .int .i64 0, .slice none 0 0, .slice none 0 0] 66)) (ba.alloc ba.size _); have qn1 : b ≠ wa.heap.size := Nat.ne_of_lt (cell_lt g0); have qm1 : wa.heap.size ≠ b := Ne.symm qn1; (try (with_reducible have kx1 := boxNewP hba)); (try (with_reducible have kx1 := boxNewQ hba)); (try clear hba); try dsimp only) | (go_at_call 117; refine (l05Num_ex sDOC _ _ 1 _ (by with_reducible first | exact Ra | exact Ra.below (Below.refl _ _).drew | exact Ra.below ((Below.refl _ _).alloc (Nat.le_refl _) _) | exact Ra.below (((Below.refl _ _).alloc (Nat.le_refl _) _).drew)) HD.out.2.1).mono ?_; rintro e wb ⟨⟨n, rfl, hn⟩, hbb⟩; have bb : Below W2.heap.size W2 wb := ba.trans ((by with_reducible first | exact hbb | exact undrewP hbb | exact unallocP hbb | exact unallocP (undrewP hbb) | exact undrewP (unallocP hbb) : Below wa.heap.size wa wb).mono ba.size); obtain ⟨l0, l1⟩ := HD.out.2.2 wb bb; obtain ⟨m0, m1⟩ := HD.out.2.2 wb.drew bb.drew; obtain ⟨n0, n1⟩ := HD.out.2.2 (wb.alloc (.cells #[.int .i64 0, .string ⟨#[]⟩, .string ⟨#[]⟩, .int .i64 0, .slice none 0 0, .slice none 0 0] 66)) (bb.alloc bb.size _); have qn2 : b ≠ wb.heap.size := Nat.ne_of_lt (cell_lt l0); have qm2 : wb.heap.size ≠ b := Ne.symm qn2; have HN : Hid (∀ m, NumE ((docW p).map fun t => [t]) 1 m → n = m) := hn; (try (have kx2 := ((by with_reducible first | exact hbb | exact undrewP hbb | exact unallocP hbb | exact unallocP (undrewP hbb) | exact undrewP (unallocP hbb) : Below wa.heap.size wa wb).block _ (Array.getElem?_eq_some_iff.1 kx1).1).trans kx1)); (try (with_reducible have kx2 := boxNewP hbb)); (try (with_reducible have kx2 := boxNewQ hbb)); (try (have kk := pbox kx2; obtain ⟨j0, j1, j2, j3, j4, j5⟩ := kk; have hfz := frz5 kx2)); (try clear hbb); (try clear hn); try dsimp only))
      all_goals rename_i hHeld
      all_goals clear hHeld
      all_goals go_wp2_with fail
      all_goals go_meet
      · exact ⟨_, n, rfl, bb.size, World.alloc_heap_new _ _, bb.alloc bb.size _, HN.out⟩
      · exact ⟨_, n, rfl, ba.size, set6P kx2, setB6P bb ba.size, HN.out⟩
      · exact ⟨_, n, rfl, Nat.le_refl _, set6P kx2, setB6P bb (Nat.le_refl _), HN.out⟩
    case rest =>
      obtain ⟨P, n, rfl, hP, hPx, hbx, hn⟩ := hcut
      rename World => wx
      have zP : w.heap.size < P := by have := H2.out.1.size; have := HR.out.2.2.1; omega
      have HPx : Hid (wx.heap[P]? = some (.cells #[.int .i64 p.kind, .string (partF ((docW p).map fun t => [t]) 0 0), .string ⟨#[]⟩, .int .i64 n, .slice none 0 0, .slice none 0 0] 66) ∧ Below W2.heap.size W2 wx ∧ W2.heap.size ≤ P ∧ ∀ m, NumE ((docW p).map fun t => [t]) 1 m → n = m) := ⟨hPx, hbx, hP, hn⟩
      have HB0 : Hid (∀ W, Below W2.heap.size W2 W → W.heap[w.heap.size]? = some (.cells #[.int .i64 0, .string ⟨#[]⟩, .string ⟨#[]⟩, .int .i64 0, .slice none 0 0, .slice none 0 0, .int .i64 0, .int .i64 0] 127) ∧ Below w.heap.size w W) := fun W hW => ⟨HX.out W (H2.out.1.trans (hW.mono H2.out.1.size)), H2.out.2.trans (hW.mono H2.out.2.size)⟩
      have HDay : Hid (NumE ((docW p).map fun t => [t]) (if hasO p.kind = true then 2 else 1) p.day) := by
        have hsm := day_sm (doc_taken HT.out (body_doc wordsS p))
        cases hO : hasO p.kind with
        | true =>
          rw [if_pos rfl]
          exact ⟨by rw [partF_2, docW_yes hO]; exact numM_dec _, hsm⟩
        | false =>
          rw [if_neg (by simp)]
          exact ⟨by rw [partF_1, docW_no hO]; exact numM_dec _, hsm⟩
      have HRef : Hid (partF ((docW p).map fun t => [t]) 0 0 = p.ref) := by
        show _ = _
        rw [partF_0]
        cases hO : hasO p.kind with
        | true => rw [docW_yes hO]; rfl
        | false => rw [docW_no hO]; rfl
      obtain ⟨hO, hhO⟩ : ∃ hO, hO = hasO p.kind := ⟨_, rfl⟩
      have HO : Hid (hO = hasO p.kind) := hhO
      have Q1 := l05Has_any p.kind wx
      rw [← hhO] at Q1
      obtain ⟨dr, hdr⟩ : ∃ dr, dr = partF ((docW p).map fun t => [t]) 0 0 := ⟨_, rfl⟩
      have HDr : Hid (dr = partF ((docW p).map fun t => [t]) 0 0) := hdr
      rw [← hdr] at hPx HPx
      obtain ⟨c0, c1, c2, c3, c4, c5⟩ := pbox hPx
      have cz := frz5 hPx
      clear hPx hbx hn hhO hdr qn0 qm0 q0' q1
      obtain ⟨q0, q1⟩ := HD.out.2.2 wx HPx.out.2.1
      go_upto_region 5 with fail
      go_cut [33] from 32 to 32 (fun s33 wy => Hid (s33 = .bool hO) ∧ wy = wx)
      case first =>
        go_wp2_with (first | (go_at_call 93; refine Q1.mono ?_; rintro e w9 ⟨rfl, rfl⟩; try dsimp only))
        go_meet
        exact ⟨rfl, rfl⟩
      case rest =>
        obtain ⟨H33, rfl⟩ := hcut
        rename World => wx
        clear Q1
        go_wp2_with fail
        go_cut [6] from 34 to 43 (fun s6 wy => s6 = .pointer (some ⟨P, 0, none⟩) ∧ PS w wy P (prS p 1) (.slice none 0 0) (.slice none 0 0))
        case first =>
          have h33 := H33.out
          subst h33
          cases hO with
          | true =>
            have HRx : Hid (RowE wx (.slice Au (docW p).length Cu) ((docW p).map fun t => [t])) := HD.out.1.below HPx.out.2.1
            obtain ⟨ot, hot⟩ : ∃ ot, ot = partF ((docW p).map fun t => [t]) 1 0 := ⟨_, rfl⟩
            have QP := part_spec sDOC (.slice Au (docW p).length Cu) ((docW p).map fun t => [t]) 1 0 wx HRx.out HD.out.2.1
            rw [← hot] at QP
            have HOt : Hid (ot = p.other) := by show _ = _; rw [hot, partF_1, docW_yes HO.out.symm]; rfl
            clear hot
            go_wp2_with fail
            refine QP.mono ?_
            rintro e w3 ⟨rfl, hb3⟩
            clear QP c0 c1 c2 c3 c4 c5 cz q0 q1
            have hb3w : Below W2.heap.size W2 w3 := HPx.out.2.1.trans (hb3.mono HPx.out.2.1.size)
            have hx3 := (hb3.block _ (Array.getElem?_eq_some_iff.1 HPx.out.1).1).trans HPx.out.1
            obtain ⟨c0, c1, c2, c3, c4, c5⟩ := pbox hx3
            have cz := frz5 hx3
            obtain ⟨W5, hW5⟩ : ∃ W5, w3.setCell ⟨P, 2, none⟩ (.string ot) = W5 := ⟨_, rfl⟩
            have hb5 : Below W2.heap.size W2 W5 := by rw [← hW5]; exact hb3w.setCell hP _
            have hx5 : W5.heap[P]? = some (.cells #[.int .i64 p.kind, .string dr, .string ot, .int .i64 n, .slice none 0 0, .slice none 0 0] 66) := by rw [← hW5]; exact heap_setCell_same w3 _ 2 _ _ _ hx3
            have H5 : Hid (W5.heap[P]? = some (.cells #[.int .i64 p.kind, .string dr, .string ot, .int .i64 n, .slice none 0 0, .slice none 0 0] 66) ∧ Below W2.heap.size W2 W5 ∧ RowE W5 (.slice Au (docW p).length Cu) ((docW p).map fun t => [t])) := ⟨hx5, hb5, HD.out.1.below hb5⟩
            have HW5 : Hid (w3.setCell ⟨P, 2, none⟩ (.string ot) = W5) := hW5
            clear hb3 hb3w hx3 hW5 hb5 hx5
            go_upto_region 7 with fail
            try rw [HW5.out]
            clear HW5 c0 c1 c2 c3 c4 c5 cz
            obtain ⟨c0, c1, c2, c3, c4, c5⟩ := pbox H5.out.1
            have cz := frz5 H5.out.1
            obtain ⟨q0, q1⟩ := HD.out.2.2 W5 H5.out.2.1
            have QD : NumE ((docW p).map fun t => [t]) 2 p.day := by have := HDay.out; rw [if_pos HO.out.symm] at this; exact this
            have HQD : Hid (NumE ((docW p).map fun t => [t]) 2 p.day) := QD
            clear QD
            go_wp2_with fail
            refine (l05Num_any sDOC _ _ 2 p.day _ H5.out.2.2 HD.out.2.1 HQD.out).mono ?_
            rintro e w6 ⟨rfl, hb6⟩
            have hx6 := (hb6.block _ (Array.getElem?_eq_some_iff.1 H5.out.1).1).trans H5.out.1
            have b6 : Below W2.heap.size W2 w6 := H5.out.2.1.trans (hb6.mono H5.out.2.1.size)
            clear c0 c1 c2 c3 c4 c5 cz
            obtain ⟨c0, c1, c2, c3, c4, c5⟩ := pbox hx6
            have cz := frz5 hx6
            have H6 : Hid (PS w (w6.setCell ⟨P, 3, none⟩ (.int .i64 p.day)) P (prS p 1) (.slice none 0 0) (.slice none 0 0)) := by
              have bS : Below W2.heap.size W2 (w6.setCell ⟨P, 3, none⟩ (.int .i64 p.day)) := b6.setCell hP _
              obtain ⟨k1, k2⟩ := HB0.out _ bS
              rw [prS_1]
              refine PS.start k1 ?_ zP k2 rfl rfl
              have e1 := heap_setCell_same w6 P 3 _ _ (.int .i64 p.day) hx6
              rw [HDr.out, HRef.out, HOt.out] at e1
              show _ = some (Obj.cells #[.int .i64 p.kind, .string p.ref, .string (selB (hasO p.kind) p.other eT), .int .i64 p.day, .slice none 0 0, .slice none 0 0] 66)
              rw [← HO.out]
              exact e1
            clear hb6 hx6 b6
            go_wp2_with fail
            go_meet
            exact ⟨rfl, H6.out⟩
          | false =>
            have QD : NumE ((docW p).map fun t => [t]) 1 p.day := by have := HDay.out; rw [if_neg (by rw [← HO.out]; simp)] at this; exact this
            have hnd := HPx.out.2.2.2 _ QD
            have H6 : Hid (PS w wx P (prS p 1) (.slice none 0 0) (.slice none 0 0)) := by
              obtain ⟨k1, k2⟩ := HB0.out _ HPx.out.2.1
              rw [prS_1]
              refine PS.start k1 ?_ zP k2 rfl rfl
              have e1 := HPx.out.1
              rw [HDr.out, HRef.out, hnd] at e1
              show _ = some (Obj.cells #[.int .i64 p.kind, .string p.ref, .string (selB (hasO p.kind) p.other eT), .int .i64 p.day, .slice none 0 0, .slice none 0 0] 66)
              rw [← HO.out]
              exact e1
            clear QD hnd
            go_wp2_with fail
            go_meet
            exact ⟨rfl, H6.out⟩
        case rest =>
          obtain ⟨rfl, hPS⟩ := hcut
          rename World => wy
          have HPS : Hid (PS w wy P (prS p 1) (.slice none 0 0) (.slice none 0 0)) := hPS
          clear hPS c0 c1 c2 c3 c4 c5 cz q0 q1
          go_wp2_with fail
          go_loopw [7] (fun i wr => ∃ (j : Nat) (vn vl : Value), i = .int .i64 (j : Int) ∧ 1 ≤ j ∧ j ≤ N ∧ PS w wr P (prS p j) vn vl ∧ ∀ i, i < j - 1 - p.notes.length → ¬ badL (risB p.kind) (oncB p.kind) (p.lines.map (lnS p.kind)) i) (fun i _ => N - (intOf i).toNat)
          case atStart => exact ⟨1, _, _, rfl, by omega, by omega, HPS.out, fun i hi => by omega⟩
          case round =>
            obtain ⟨j, vn, vl, rfl, hj1, hjN, hQ, hbad⟩ := hrel
            have HBad : Hid (∀ i, i < j - 1 - p.notes.length → ¬ badL (risB p.kind) (oncB p.kind) (p.lines.map (lnS p.kind)) i) := hbad
            clear hbad
            by_cases hltN : j < N
            · have hlt' : (j : Int) < (N : Int) := by omega
              have hlt : j < (bodyW wordsS p).length := by rw [← HR.out.2.2.2.2.2.1]; exact hltN
              rcases Nat.lt_or_ge (j - 1) p.notes.length with hjn | hjn
              · obtain ⟨k, hjk⟩ : ∃ k, j = k + 1 := ⟨j - 1, by omega⟩
                obtain ⟨t, htk, hs0⟩ := body_noteF (f := wordsS) (p := p) (k := k) (by omega)
                obtain ⟨ws, hws⟩ : ∃ ws : List ByteArray, ws = [t] := ⟨_, rfl⟩
                have hs : (bodyW wordsS p)[j]? = some (hdS sNOT ws) := by rw [hjk, hws]; exact hs0
                have htz := hB.2.2.1.2 k t htk
                have hwl : ws.length ≤ 10 := by rw [hws]; simp
                have hwz : ∀ x ∈ ws, x.size ≤ 1048576 := by rw [hws]; intro x hx; rw [List.mem_singleton.1 hx]; exact htz
                obtain ⟨b, o, cap', g', u, e, hs', q0, q1, hE, _⟩ := (HRw.out.below hQ.bel).at hlt
                rw [hs] at hs'
                simp only [Option.some.injEq] at hs'
                subst hs'
                have hE' : RowE wr u (ws.map fun t => [t]) := hE
                have q0' : wr.cell? ⟨b, o + j * 2, none⟩ = some (.string sNOT) := q0
                obtain ⟨Au, Cu, hu⟩ := hE'.val
                rw [List.length_map] at hu
                subst hu
                simp only [Value.slice.injEq, Option.some.injEq, Addr.mk.injEq] at e
                obtain ⟨⟨rfl, rfl, _⟩, hNe, rfl⟩ := e
                obtain ⟨tt, htt⟩ : ∃ tt, tt = partF (ws.map fun t => [t]) 0 0 := ⟨_, rfl⟩
                have QP : ∀ W, RowE W (.slice Au ws.length Cu) (ws.map fun t => [t]) → Calls Tryz.prog 116 #[.agg #[.string sNOT, .slice Au ws.length Cu], .int .i64 0, .int .i64 0] W fun e w' => e = .returned (.string tt) ∧ Below W.heap.size W w' := fun W hW => by
                  rw [htt]
                  exact part_spec sNOT _ _ 0 0 W hW (bdE_w hwl hwz)
                have HTt : Hid (tt = t ∧ p.notes[k]? = some t) := ⟨by rw [htt, partF_0, hws]; rfl, htk⟩
                obtain ⟨Av, Nv, Cv, hvn⟩ := row_slice hQ.ns
                subst hvn
                have hnl : (prS p j).notes.length = k := by show (p.notes.take (j - 1)).length = k; rw [List.length_take]; omega
                have hNv : Nv = k := by have := row_n' hQ.ns; omega
                subst hNv
                have hmx : (prS p j).notes.length + 1 ≤ maxLen := by unfold maxLen; omega
                have hlb : (prS p j).notes.length ≤ 40 := by omega
                have HLL : Hid ((prS p j).notes.length = Nv) := hnl
                have HC : Hid (∀ W, Below wr.heap.size wr W → PS w W P (prS p j) (.slice Av Nv Cv) vl) := fun W hW => hQ.below hW
                have HEr : Hid (RowE wr (.slice Au ws.length Cu) (ws.map fun t => [t])) := hE'
                have hcN : (sNOT.toList == [78, 79, 84]) = true := by show ((bs [78, 79, 84]).toList == [78, 79, 84]) = true; rw [tag_cmp]; decide
                obtain ⟨c0, c1, c2, c3, c4, c5⟩ := pbox hQ.box
                obtain ⟨j0, hj0i, hi0, hi1, hi2⟩ := info_parts infoTx
                have HJ : Hid (j = Nv + 1) := hjk
                clear hQ hE hE' q0 hs hs0 hws hwz htt htk hnl hNe hjk
                go_upto_region 12 with fail
                go_region_law (first | (go_simp; refine (QP _ (by first | exact HEr.out | exact HEr.out.below (Below.refl _ _).drew)).mono ?_; rintro e w5 ⟨rfl, hb5⟩; have b5 : Below wr.heap.size wr w5 := (by first | exact hb5 | exact undrewP hb5); have H5 : Hid (PS w w5 P (prS p j) (.slice Av Nv Cv) vl) := HC.out w5 b5; obtain ⟨m0, m1, m2, m3, m4, m5⟩ := pbox H5.out.box; have HX5 : Hid (PS w (w5.alloc (.cells #[.string tt] 9)) P (prS p j) (.slice Av Nv Cv) vl) := H5.out.below ((Below.refl _ _).alloc (Nat.le_refl _) _); have rowN := HX5.out.ns; have hsN : P + 1 ≤ (w5.alloc (.cells #[.string tt] 9)).heap.size := HX5.out.lt; obtain ⟨d0, d1, d2, d3, d4, d5⟩ := pbox HX5.out.box; clear hb5; try dsimp only) | (refine step_append_lies _ (by rfl) _ _ _ (by rfl) (P + 1) 9 j0 _ 1 16 Tryz.underlying63 hj0i hi0 hi1 hi2 rfl (by omega) (.slice Av Nv Cv) (prS p j).notes.length ((prS p j).notes.map Value.string) (by rfl) rowN ⟨w5.heap.size, 0, none⟩ 1 1 [.string tt] (by rfl) (by rfl) (World.news_of_block (cs := #[.string tt]) (t := 9) (fr := (0, 0)) (World.alloc_heap_new w5 _)) (by simp [Value.oneCell']) (by omega) hmx (by omega) hsN (w5.heap.size + 1) (by simp) ?_; intro gg cap w10 hown10 hgrow10 hat10 hlt10; have HG := HX5.out.note (t := tt) (by rw [List.map_append]; exact hown10) hgrow10; obtain ⟨u0, u1, u2, u3, u4, u5⟩ := pbox HG.1; have uf := frz5 HG.1; have H10 : Hid _ := HG.2; clear HG hown10 hgrow10 hat10 hlt10; try dsimp only) | fail)
                all_goals
                  have hF := H10.out
                  rw [HTt.out.1, HJ.out, ← prS_note HTt.out.2, ← HJ.out] at hF
                  have HF : Hid _ := hF
                  clear hF H10
                  go_wp2
                  go_roundw
                  case rel => exact ⟨j + 1, _, vl, by go_num, by omega, by omega, HF.out, fun i hi => HBad.out i (by have := HJ.out; omega)⟩
                  case measure => simp [intOf]; omega
              · obtain ⟨k, hjk⟩ : ∃ k, j = p.notes.length + k + 1 := ⟨j - 1 - p.notes.length, by omega⟩
                have hkl : k < p.lines.length := by have := HR.out.2.2.2.2.2.1; have := HR.out.2.2.2.2.2.2.1; omega
                obtain ⟨l, hlk, hs0⟩ := body_lineF (f := wordsS) (p := p) hkl
                have hIl := hI.2 l (List.mem_of_getElem? hlk)
                have hlz := hB.2.2.2.2 k l hlk
                have hsm := sm_of hk (lin_taken HT.out (body_lines wordsS p (List.mem_of_getElem? hlk)))
                obtain ⟨wl1, wl2⟩ := wordsS_bd (k := p.kind) hIl hlz
                obtain ⟨m, hmm⟩ : ∃ m, m = lnS p.kind l := ⟨_, rfl⟩
                obtain ⟨ws, hws⟩ : ∃ ws, ws = wordsS p.kind l := ⟨_, rfl⟩
                have hwm : wordsS p.kind m = ws := by rw [hmm, hws]; exact words_rdS _ _
                have hmm2 : lnS p.kind m = m := by rw [hmm]; exact lnS_rd _ _
                rw [← hmm] at hsm
                rw [← hws] at wl1 wl2
                have hs : (bodyW wordsS p)[j]? = some (hdS (sTag p.kind) ws) := by rw [hjk, hws]; exact hs0
                have hbE := bdE_w (ws := ws) (by omega) wl2
                have hmz : m.item.size ≤ 1048576 ∧ m.note.size ≤ 1048576 := by rw [hmm]; exact lnS_bd hB.2.2.2 (List.mem_of_getElem? hlk)
                have hmI : LnI m := by rw [hmm]; exact lnS_int hIl
                obtain ⟨b, o, cap', g', u, e, hs', q0, q1, hE, _⟩ := (HRw.out.below hQ.bel).at hlt
                rw [hs] at hs'
                simp only [Option.some.injEq] at hs'
                subst hs'
                have hE' : RowE wr u (ws.map fun t => [t]) := hE
                have q0' : wr.cell? ⟨b, o + j * 2, none⟩ = some (.string (sTag p.kind)) := q0
                obtain ⟨Au, Cu, hu⟩ := hE'.val
                rw [List.length_map] at hu
                subst hu
                simp only [Value.slice.injEq, Option.some.injEq, Addr.mk.injEq] at e
                obtain ⟨⟨rfl, rfl, _⟩, hNe, rfl⟩ := e
                have QR : ∀ W, RowE W (.slice Au ws.length Cu) (ws.map fun t => [t]) → Calls Tryz.prog 118 #[.int .i64 p.kind, .agg #[.string (sTag p.kind), .slice Au ws.length Cu]] W fun e w' => e = .returned (lnV m) ∧ Below W.heap.size W w' := fun W hW => by
                  have := l05Read_any p.kind m (sTag p.kind) (.slice Au ws.length Cu) W hsm (by rw [hwm]; exact hW) (by rw [hwm]; exact hbE)
                  rw [hmm2] at this
                  exact this
                have QL : ∀ W, Calls Tryz.prog 101 #[.int .i64 p.kind, lnV m] W fun e w' => ∃ A N C, e = .returned (.agg #[.string (sTag p.kind), .slice A N C]) ∧ RowE w' (.slice A N C) (ws.map fun t => [t]) ∧ Below W.heap.size W w' := fun W => by
                  refine (l05Line_any p.kind m W hmI hmz).mono ?_
                  rintro e w' ⟨u, vals, rfl, hO, hb⟩
                  rw [hwm] at hO
                  obtain ⟨A, N, C, hu⟩ := row_slice hO.row
                  subst hu
                  exact ⟨A, N, C, rfl, hO.rowT (fun e he => by obtain ⟨t, ht, rfl⟩ := List.mem_map.1 he; exact ⟨rfl, fun x hx => by rw [List.mem_singleton.1 hx]; exact wl2 t ht⟩) (by rw [List.length_map]; omega), hb⟩
                unfold lnV at QR QL
                have HL : Hid (p.lines[k]? = some l ∧ m = lnS p.kind l ∧ (p.lines.map (lnS p.kind))[k]? = some m) := ⟨hlk, hmm, by rw [List.getElem?_map, hlk, hmm]; rfl⟩
                obtain ⟨L, hL⟩ : ∃ L, L = p.lines.map (lnS p.kind) := ⟨_, rfl⟩
                rw [← hL] at HL HBad
                have hLl : L.length = p.lines.length := by rw [hL, List.length_map]
                have HLd : Hid (L = p.lines.map (lnS p.kind) ∧ L.length = p.lines.length ∧ ∀ l ∈ L, l.item.size ≤ 9223372036854775807 ∧ l.note.size ≤ 9223372036854775807) := ⟨hL, hLl, by rw [hL]; intro x hx; obtain ⟨y, hy, rfl⟩ := List.mem_map.1 hx; have := lnS_bd (k := p.kind) hB.2.2.2 hy; omega⟩
                have hpl := prS_lines (p := p) k
                rw [← hL, ← hjk] at hpl
                obtain ⟨Av, Nv, Cv, hvl⟩ := row_slice5 hQ.ls
                subst hvl
                have hll : (prS p j).lines.length = k := by rw [hpl, List.length_take]; omega
                have hNv : Nv = k := by have := row_n5 hQ.ls; omega
                subst hNv
                have HC : Hid (∀ W, Below wr.heap.size wr W → PS w W P (prS p j) vn (.slice Av Nv Cv) ∧ (W.cell? ⟨b, o + j * 2, none⟩ = some (.string (sTag p.kind)) ∧ W.cell? ⟨b, o + j * 2 + 1, none⟩ = some (.slice Au ws.length Cu)) ∧ RowE W (.slice Au ws.length Cu) (ws.map fun t => [t]) ∧ RowL W (.slice Av Nv Cv) (L.take Nv)) := fun W hW => ⟨hQ.below hW, ⟨(hW.cell (cell_lt q0')).trans q0', (hW.cell (cell_lt q1)).trans q1⟩, hE'.below hW, by have := rowL_of_owns (hQ.below hW).ls (by rw [hll]; omega) (by rw [hpl]; intro x hx; exact HLd.out.2.2 x (List.mem_of_mem_take hx)); rw [hpl] at this; exact this⟩
                have hcN := sTag_cmpN p.kind
                have HPl : Hid ((prS p j).lines = L.take Nv ∧ (prS p j).lines.length = Nv) := ⟨hpl, hll⟩
                have HJ : Hid (j = p.notes.length + Nv + 1) := hjk
                clear hjk hQ hE hE' q0 hs hs0 hNe hsm hbE hmz hmI hwm hmm2 hws hmm hlk hIl hlz hL hLl hpl hll wl2
                go_upto_region 13 with fail
                obtain ⟨hQr, ⟨_, _⟩, hEr, _⟩ := HC.out wr (Below.refl _ _)
                have HEr : Hid (RowE wr (.slice Au ws.length Cu) (ws.map fun t => [t])) := hEr
                clear hQr hEr
                go_wp2_with fail
                refine (QR _ HEr.out).mono ?_
                rintro e w3 ⟨rfl, hb3⟩
                obtain ⟨W4, hW4⟩ : ∃ W4, w3.alloc (.cells #[.int .i64 m.no, .string m.item, .int .i64 m.qty, .int .i64 m.money, .string m.note] 121) = W4 := ⟨_, rfl⟩
                have b4 : Below wr.heap.size wr W4 := by rw [← hW4]; exact hb3.trans (((Below.refl _ _).alloc (Nat.le_refl _) _).mono hb3.size)
                have y4 : W4.heap[w3.heap.size]? = some (.cells #[.int .i64 m.no, .string m.item, .int .i64 m.qty, .int .i64 m.money, .string m.note] 121) := by rw [← hW4]; exact World.alloc_heap_new _ _
                obtain ⟨X, hX⟩ : ∃ X, X = w3.heap.size := ⟨_, rfl⟩
                rw [← hX] at y4
                have HD4 : Hid (w3.alloc (.cells #[.int .i64 m.no, .string m.item, .int .i64 m.qty, .int .i64 m.money, .string m.note] 121) = W4 ∧ X = w3.heap.size) := ⟨hW4, hX⟩
                have HC4 : Hid (∀ W, Below W4.heap.size W4 W → Below wr.heap.size wr W ∧ (W.cell? ⟨X, 0, none⟩ = some (.int .i64 m.no) ∧ W.cell? ⟨X, 1, none⟩ = some (.string m.item) ∧ W.cell? ⟨X, 2, none⟩ = some (.int .i64 m.qty) ∧ W.cell? ⟨X, 3, none⟩ = some (.int .i64 m.money) ∧ W.cell? ⟨X, 4, none⟩ = some (.string m.note))) := fun W hW => ⟨b4.trans (hW.mono b4.size), box5 ((hW.block _ (Array.getElem?_eq_some_iff.1 y4).1).trans y4)⟩
                clear hW4 b4 y4 hX hb3 QR q0' q1 hcN
                go_upto_region 14 with fail
                try rw [HD4.out.1]
                try rw [← HD4.out.2]
                clear HD4
                obtain ⟨bq, ⟨x0, x1, x2, x3, x4⟩⟩ := HC4.out W4 (Below.refl _ _)
                obtain ⟨hQ4, ⟨q0, q1⟩, _, hRL4⟩ := HC.out W4 bq
                obtain ⟨c0, c1, c2, c3, c4, c5⟩ := pbox hQ4.box
                have HRL4 : Hid (RowL W4 (.slice Av Nv Cv) (L.take Nv)) := hRL4
                obtain ⟨r0, r1, r2, r3, r4, r5, r6, r7⟩ := box8o hQ4.res
                have rz := frz5 hQ4.res
                have HBw : Hid (Below w.heap.size w W4 ∧ ∀ W, Below W4.heap.size W4 W → Below wr.heap.size wr W) := ⟨hQ4.bel, fun W hW => (HC4.out W hW).1⟩
                have hNvb : Nv ≤ 20 := by have := HPl.out.2; have := HLd.out.2.1; omega
                clear bq hQ4 hRL4
                obtain ⟨z, hz⟩ : ∃ z, z = lastN L Nv := ⟨_, rfl⟩
                have HZ : Hid (z = lastN L Nv) := hz
                clear hz
                obtain ⟨r, hr⟩ : ∃ r, r = risB p.kind := ⟨_, rfl⟩
                obtain ⟨oc, hoc⟩ : ∃ oc, oc = oncB p.kind := ⟨_, rfl⟩
                have QN := l05Numbered_any p.kind
                have QO := l05Own_any p.kind
                rw [← hr] at QN
                rw [← hoc] at QO
                have HB2 : Hid ((badL (risB p.kind) (oncB p.kind) L Nv ↔ (r = true ∧ (m.no ≤ z ∨ 999 < m.no)) ∨ (oc = true ∧ itmB (L.take Nv) m.item = true)) ∧ r = risB p.kind ∧ oc = oncB p.kind) := ⟨by rw [HZ.out, hr, hoc]; exact badL_iff HL.out.2.2, hr, hoc⟩
                have HNo : Hid (badL (risB p.kind) (oncB p.kind) L Nv → ¬ ((tcV p.kind (bodyW wordsS p)).2.2 = 0 ∧ PlcOk p.kind (p.lines.map (lnS p.kind)))) := fun hb g => g.2 Nv (by rw [← HLd.out.1]; exact hb)
                clear hr hoc
                go_upto_region 15 with fail
                go_cut [75] from 72 to 74 (fun s75 wy => Hid (s75 = .bool (decide ((0 : Int) < (Nv : Int)))) ∧ wy = W4)
                case first =>
                  go_wp2_with fail
                  all_goals go_meet
                  all_goals first | exact ⟨rfl, rfl⟩ | exact ⟨by show _ = _; simp, rfl⟩ | exact ⟨by show _ = _; simp; omega, rfl⟩
                case rest =>
                  obtain ⟨H75, rfl⟩ := hcut
                  rename World => W4
                  go_wp2_with fail
                  go_cut [9] from 75 to 84 (fun s9 wy => s9 = .int .i64 z ∧ wy = W4)
                  case first =>
                    have h75 := H75.out
                    subst h75
                    rcases Nat.eq_zero_or_pos Nv with q | q
                    · have hd : decide ((0 : Int) < (Nv : Int)) = false := by simp; omega
                      have hz0 : z = 0 := by rw [HZ.out]; unfold lastN; rw [if_pos q]
                      rw [hd]
                      have HZ0 : Hid (z = 0) := hz0
                      clear q hz0 hd
                      go_wp2_with fail
                      go_meet
                      exact ⟨by rw [HZ0.out], rfl⟩
                    · have hd : decide ((0 : Int) < (Nv : Int)) = true := by simp; omega
                      have hlt2 : Nv - 1 < (L.take Nv).length := by rw [List.length_take]; have := HLd.out.2.1; omega
                      obtain ⟨b2, o2, cap2, l2, e2, hs2, hat2, _, _⟩ := HRL4.out.at hlt2
                      simp only [Value.slice.injEq] at e2
                      obtain ⟨rfl, hNe2, rfl⟩ := e2
                      obtain ⟨y0, y1, y2, y3, y4⟩ := hat2
                      have hzl : z = l2.no := by
                        rw [HZ.out]
                        unfold lastN
                        rw [if_neg (by omega)]
                        rw [List.getElem?_take_of_lt (by omega)] at hs2
                        rw [hs2]
                        rfl
                      subst hzl
                      have hkm : (Nv : Int) - 1 = ((Nv - 1 : Nat) : Int) := by omega
                      have hk1 : ((Nv - 1 : Nat) : Int) < (Nv : Int) := by omega
                      rw [hd]
                      clear hs2 hNe2
                      go_wp2_with fail
                      go_meet
                      exact ⟨rfl, rfl⟩
                  case rest =>
                    obtain ⟨rfl, rfl⟩ := hcut
                    rename World => W4
                    obtain ⟨bn, hbn⟩ : ∃ bn, bn = decide (r = true ∧ (m.no ≤ z ∨ 999 < m.no)) := ⟨_, rfl⟩
                    have HBn : Hid (bn = decide (r = true ∧ (m.no ≤ z ∨ 999 < m.no))) := hbn
                    go_upto_region 17 with fail
                    go_cut [97] from 85 to 96 (fun s97 wy => Hid (s97 = .bool bn) ∧ wy = W4)
                    case first =>
                      clear HBn HB2
                      cases r with
                      | false =>
                        have h0 : bn = false := by rw [hbn]; simp
                        go_wp2_with (first | (go_at_call 95; refine (QN _).mono ?_; rintro e w9 ⟨rfl, rfl⟩; try dsimp only))
                        go_meet
                        exact ⟨by show _ = _; rw [h0], rfl⟩
                      | true =>
                        by_cases h1 : m.no ≤ z
                        · have h0 : bn = true := by rw [hbn]; simp [h1]
                          go_wp2_with (first | (go_at_call 95; refine (QN _).mono ?_; rintro e w9 ⟨rfl, rfl⟩; try dsimp only))
                          go_meet
                          exact ⟨by show _ = _; rw [h0], rfl⟩
                        · by_cases h2 : 999 < m.no
                          · have h0 : bn = true := by rw [hbn]; simp [h2]
                            go_wp2_with (first | (go_at_call 95; refine (QN _).mono ?_; rintro e w9 ⟨rfl, rfl⟩; try dsimp only))
                            go_meet
                            exact ⟨by show _ = _; rw [h0], rfl⟩
                          · have h0 : bn = false := by rw [hbn]; simp; omega
                            go_wp2_with (first | (go_at_call 95; refine (QN _).mono ?_; rintro e w9 ⟨rfl, rfl⟩; try dsimp only))
                            go_meet
                            exact ⟨by show _ = _; rw [h0], rfl⟩
                    case rest =>
                      obtain ⟨H97, rfl⟩ := hcut
                      rename World => W4
                      clear QN hbn
                      go_wp2_with fail
                      have h97 := H97.out
                      subst h97
                      cases bn with
                      | true =>
                        have HNo2 : Hid (¬ ((tcV p.kind (bodyW wordsS p)).2.2 = 0 ∧ PlcOk p.kind (p.lines.map (lnS p.kind)))) := HNo.out (HB2.out.1.2 (.inl (of_decide_eq_true HBn.out.symm)))
                        go_wp2
                        exact bodyPost_ret (v := .agg #[.int .i64 0, .string ⟨#[]⟩, .string ⟨#[]⟩, .int .i64 0, .slice none 0 0, .slice none 0 0, .int .i64 (j : Int), .int .i64 11]) (by simp [results, Tryz.results77, go_sem, r0, r1, r2, r3, r4, r5, r6, r7]) rfl ⟨set8_below HBw.out.1 _ _ _ _ _ _ _ _, .inr ⟨_, 11, rfl, by decide, HNo2.out⟩⟩
                      | false =>
                        have HG : Hid (¬ (r = true ∧ (m.no ≤ z ∨ 999 < m.no))) := of_decide_eq_false HBn.out.symm
                        clear HBn x0 x1 x2 x3 x4 q0 q1 c0 c1 c2 c3 c4 c5 r0 r1 r2 r3 r4 r5 r6 r7 rz
                        go_wp2_with fail
                        go_loopw [10] (fun i wy => ∃ n : Nat, i = .int .i64 (n : Int) ∧ n ≤ Nv ∧ Below W4.heap.size W4 wy ∧ (oc = true → ∀ (i : Nat) (q : Ln), i < n → (L.take Nv)[i]? = some q → (q.item.toList == m.item.toList) = false)) (fun i _ => Nv - (intOf i).toNat)
                        case atStart => exact ⟨0, rfl, by omega, Below.refl _ _, fun _ i q hi => by omega⟩
                        case round =>
                          rename World => wi
                          obtain ⟨n, rfl, hnN, hbi, hA⟩ := hrel
                          obtain ⟨bq, ⟨x0, x1, x2, x3, x4⟩⟩ := HC4.out wi hbi
                          obtain ⟨hQi, ⟨q0, q1⟩, hEi, hRi⟩ := HC.out wi bq
                          obtain ⟨c0, c1, c2, c3, c4, c5⟩ := pbox hQi.box
                          obtain ⟨r0, r1, r2, r3, r4, r5, r6, r7⟩ := box8o hQi.res
                          have rz := frz5 hQi.res
                          have HI : Hid (Below W4.heap.size W4 wi ∧ Below w.heap.size w wi ∧ (oc = true → ∀ (i : Nat) (q : Ln), i < n → (L.take Nv)[i]? = some q → (q.item.toList == m.item.toList) = false) ∧ RowL wi (.slice Av Nv Cv) (L.take Nv) ∧ RowE wi (.slice Au ws.length Cu) (ws.map fun t => [t])) := ⟨hbi, hQi.bel, hA, hRi, hEi⟩
                          obtain ⟨ct, hct⟩ : ∃ ct, ct = (decide ((n : Int) < (Nv : Int)) && oc) := ⟨_, rfl⟩
                          have HCt : Hid (ct = (decide ((n : Int) < (Nv : Int)) && oc)) := hct
                          clear bq hbi hA hQi hRi hEi
                          go_upto_region 20 with fail
                          go_cut [108] from 100 to 107 (fun s108 wy => Hid (s108 = .bool ct) ∧ wy = wi)
                          case first =>
                            by_cases h1 : (n : Int) < (Nv : Int)
                            · have h0 : ct = oc := by rw [hct]; simp [h1]
                              go_wp2_with (first | (go_at_call 96; refine (QO _).mono ?_; rintro e w9 ⟨rfl, rfl⟩; try dsimp only))
                              go_meet
                              exact ⟨by show _ = _; rw [h0], rfl⟩
                            · have h0 : ct = false := by rw [hct]; simp [h1]
                              go_wp2_with (first | (go_at_call 96; refine (QO _).mono ?_; rintro e w9 ⟨rfl, rfl⟩; try dsimp only))
                              go_meet
                              exact ⟨by show _ = _; rw [h0], rfl⟩
                          case rest =>
                            obtain ⟨H108, rfl⟩ := hcut
                            rename World => wi
                            clear hct
                            go_wp2_with fail
                            have h108 := H108.out
                            subst h108
                            cases ct with
                            | true =>
                              have hct2 := HCt.out.symm
                              rw [Bool.and_eq_true, decide_eq_true_eq] at hct2
                              obtain ⟨hni, hoc⟩ := hct2
                              have hlt2 : n < (L.take Nv).length := by rw [List.length_take]; have := HLd.out.2.1; omega
                              obtain ⟨b2, o2, cap2, l2, e2, hs2, hat2, _, _⟩ := HI.out.2.2.2.1.at hlt2
                              simp only [Value.slice.injEq] at e2
                              obtain ⟨rfl, hNe2, rfl⟩ := e2
                              obtain ⟨y0, y1, y2, y3, y4⟩ := hat2
                              have HS2 : Hid ((L.take Nv)[n]? = some l2 ∧ oc = true) := ⟨hs2, hoc⟩
                              clear hs2 hNe2 hoc
                              cases he : (l2.item.toList == m.item.toList) with
                              | true =>
                                have HNo2 : Hid (¬ ((tcV p.kind (bodyW wordsS p)).2.2 = 0 ∧ PlcOk p.kind (p.lines.map (lnS p.kind)))) := HNo.out (HB2.out.1.2 (.inr ⟨HS2.out.2, itmB_yes HS2.out.1 he⟩))
                                go_upto_region 22 with fail
                                go_quiet (fail)
                                go_wp2
                                exact bodyPost_ret (v := .agg #[.int .i64 0, .string ⟨#[]⟩, .string ⟨#[]⟩, .int .i64 0, .slice none 0 0, .slice none 0 0, .int .i64 (j : Int), .int .i64 11]) (by simp [results, Tryz.results77, go_sem, r0, r1, r2, r3, r4, r5, r6, r7]) rfl ⟨set8_below (by first | exact below_drewN HI.out.2.1 _ | exact HI.out.2.1 | exact HI.out.2.1.drew) _ _ _ _ _ _ _ _, .inr ⟨_, 11, rfl, by decide, HNo2.out⟩⟩
                              | false =>
                                go_upto_region 22 with fail
                                go_quiet (fail)
                                go_wp2
                                go_roundw
                                case rel =>
                                  refine ⟨n + 1, by go_num, by omega, by first | exact below_drewN HI.out.1 _ | exact HI.out.1, fun h i q hi hq => ?_⟩
                                  rcases Nat.lt_or_ge i n with g | g
                                  · exact HI.out.2.2.1 h i q g hq
                                  · obtain rfl : i = n := by omega
                                    rw [HS2.out.1] at hq
                                    cases hq
                                    exact he
                                case measure => simp [intOf]; omega
                            | false =>
                              have HOk : Hid (¬ badL (risB p.kind) (oncB p.kind) L Nv) := fun hb => by
                                rcases HB2.out.1.1 hb with g | ⟨g1, g2⟩
                                · exact HG.out g
                                · have hct2 := HCt.out
                                  rw [g1, Bool.and_true] at hct2
                                  have hnn : ¬ (n : Int) < (Nv : Int) := of_decide_eq_false hct2.symm
                                  have hnN' : n = Nv := by omega
                                  have := itmB_no (ls := L.take Nv) (t := m.item) fun i q hi => HI.out.2.2.1 g1 i q (by have := (List.getElem?_eq_some_iff.1 hi).1; rw [List.length_take] at this; omega) hi
                                  rw [this] at g2
                                  cases g2
                              go_upto_region 24 with fail
                              go_region_held3 (fun W => (W.cell? ⟨X, 0, none⟩ = some (.int .i64 m.no) ∧ W.cell? ⟨X, 1, none⟩ = some (.string m.item) ∧ W.cell? ⟨X, 2, none⟩ = some (.int .i64 m.qty) ∧ W.cell? ⟨X, 3, none⟩ = some (.int .i64 m.money) ∧ W.cell? ⟨X, 4, none⟩ = some (.string m.note)) ∧ W.cell? ⟨b, o + j * 2, none⟩ = some (.string (sTag p.kind)) ∧ W.cell? ⟨b, o + j * 2 + 1, none⟩ = some (.slice Au ws.length Cu)) (go_keep) (first | (go_at_call 101; refine (QL _).mono ?_; rintro e wa ⟨A3, N3, C3, rfl, hRa, hba⟩; have ba : Below W4.heap.size W4 wa := HI.out.1.trans ((by first | exact hba | exact undrewP hba : Below wi.heap.size wi wa).mono HI.out.1.size); obtain ⟨bqa, ⟨a0, a1, a2, a3, a4⟩⟩ := HC4.out wa ba; obtain ⟨_, ⟨a5, a6⟩, Ea, _⟩ := HC.out wa bqa; clear hba; try dsimp only) | (go_at_call 119; refine (sameSeg_any (sTag p.kind) (sTag p.kind) _ _ (ws.map fun t => [t]) (ws.map fun t => [t]) _ (by first | exact hRa | exact hRa.below (Below.refl _ _).drew) (by first | exact Ea | exact Ea.below (Below.refl _ _).drew)).mono ?_; rintro e wb ⟨rfl, hbb⟩; have bb : Below W4.heap.size W4 wb := ba.trans ((by first | exact hbb | exact undrewP hbb : Below wa.heap.size wa wb).mono ba.size); rw [show decide (sTag p.kind = sTag p.kind ∧ (ws.map fun t => [t]) = (ws.map fun t => [t])) = true by simp]; obtain ⟨bqb, ⟨g0, g1, g2, g3, g4⟩⟩ := HC4.out wb bb; obtain ⟨_, ⟨g5, g6⟩, _, _⟩ := HC.out wb bqb; clear hbb; try dsimp only) | fail)
                              rename_i hHeld
                              clear hHeld
                              obtain ⟨hQb, _, _, _⟩ := HC.out wb bqb
                              obtain ⟨h0, h1, h2, h3, h4, h5⟩ := pbox hQb.box
                              obtain ⟨Wc, hWc⟩ : ∃ Wc, wb.alloc (.cells #[.int .i64 m.no, .string m.item, .int .i64 m.qty, .int .i64 m.money, .string m.note] 121) = Wc := ⟨_, rfl⟩
                              have bc : Below wb.heap.size wb Wc := by rw [← hWc]; exact (Below.refl _ _).alloc (Nat.le_refl _) _
                              have hnew : ∀ j u, (clL m)[j]? = some u → Wc.cell? ((⟨wb.heap.size, 0, none⟩ : Addr).add j) = some u := by rw [← hWc]; exact World.news_of_block (cs := #[.int .i64 m.no, .string m.item, .int .i64 m.qty, .int .i64 m.money, .string m.note]) (t := 121) (fr := (0, 0)) (World.alloc_heap_new wb _)
                              have HPc : Hid (PS w Wc P (prS p j) vn (.slice Av Nv Cv)) := hQb.below bc
                              have hrow := HPc.out.ls
                              have hbase : P + 1 ≤ Wc.heap.size := HPc.out.lt
                              have hl1 : (prS p j).lines.length + 1 ≤ 2000000 := by have := HPl.out.2; omega
                              have HWc : Hid (wb.alloc (.cells #[.int .i64 m.no, .string m.item, .int .i64 m.qty, .int .i64 m.money, .string m.note] 121) = Wc) := hWc
                              clear hQb bc bqb hWc
                              go_wp2_with (at_builtin; (try rw [HWc.out]); refine wpList_appLn (base := P + 1) (c := wb.heap.size) (C := 1) (lv := .slice Av Nv Cv) (ss := (prS p j).lines) (t := m) rfl _ _ rfl rfl rfl hrow hnew hl1 hbase ?_; rintro v6 w6 hown6 hgrow6 ⟨A6, C6, rfl⟩; obtain ⟨hx6, hq6⟩ := HPc.out.line hown6 hgrow6; have H6 : Hid _ := hq6; obtain ⟨u0, u1, u2, u3, u4, u5⟩ := pbox hx6; have uf := frz5 hx6; clear hx6 hq6 hown6 hgrow6; try dsimp only)
                              have hF := H6.out
                              rw [HL.out.2.1, HJ.out, ← prS_line HL.out.1, ← HJ.out] at hF
                              have HF : Hid _ := hF
                              clear hF H6
                              go_roundw
                              case rel =>
                                refine ⟨j + 1, vn, _, by go_num, by omega, by omega, HF.out, fun i hi => ?_⟩
                                have hJ := HJ.out
                                rw [← HLd.out.1]
                                rcases Nat.lt_or_ge i Nv with g | g
                                · exact HBad.out i (by omega)
                                · obtain rfl : i = Nv := by omega
                                  exact HOk.out
                              case measure => simp [intOf]; omega
            · obtain rfl : j = N := by omega
              have hrd : prS p j = rdP lnS p := by rw [HR.out.2.2.2.2.2.1, HR.out.2.2.2.2.2.2.1]; exact prS_all p
              rw [hrd] at hQ
              have hnz : (rdP lnS p).notes.length ≤ 100 := by show p.notes.length ≤ 100; omega
              have hlz : (rdP lnS p).lines.length ≤ 100 := by show (p.lines.map (lnS p.kind)).length ≤ 100; rw [List.length_map]; omega
              have hPl : PlcOk p.kind (p.lines.map (lnS p.kind)) := fun i => by
                rcases Nat.lt_or_ge i p.lines.length with q | q
                · exact HBad.out i (by have := HR.out.2.2.2.2.2.1; have := HR.out.2.2.2.2.2.2.1; omega)
                · rintro ⟨l, hl, _⟩
                  rw [List.getElem?_eq_none (by rw [List.length_map]; exact q)] at hl
                  cases hl
              have HF : Hid (PS w wr P (rdP lnS p) vn vl ∧ PapR wr vn vl (rdP lnS p) ∧ PlcOk p.kind (p.lines.map (lnS p.kind))) := ⟨hQ, ⟨rowS_of_owns hQ.ns hnz (fun t ht => by obtain ⟨i, hi⟩ := List.getElem?_of_mem ht; exact hB.2.2.1.2 i t hi), rowL_of_owns hQ.ls hlz (fun l hl => by obtain ⟨m, hm, rfl⟩ := List.mem_map.1 hl; have := lnS_bd (k := p.kind) hB.2.2.2 hm; omega), by show p.ref.size ≤ _; have := hB.1; omega, rd_otherS hB.2.1⟩, hPl⟩
              obtain ⟨c0, c1, c2, c3, c4, c5⟩ := pbox hQ.box
              obtain ⟨r0, r1, r2, r3, r4, r5, r6, r7⟩ := box8o hQ.res
              have rz := frz5 hQ.res
              obtain ⟨An, Nn, Cn, hvn⟩ := row_slice hQ.ns
              obtain ⟨Al, Nl, Cl, hvl⟩ := row_slice5 hQ.ls
              subst hvn hvl
              have hqz : w.heap.size ≠ P := by omega
              clear hQ hPl hrd hnz hlz
              go_wp2
              refine bodyPost_ret (v := .agg #[.int .i64 (rdP lnS p).kind, .string (rdP lnS p).ref, .string (rdP lnS p).other, .int .i64 (rdP lnS p).day, .slice An Nn Cn, .slice Al Nl Cl, .int .i64 0, .int .i64 0]) (by simp [results, Tryz.results77, go_sem, r0, r1, r2, r3, r4, r5, r6, r7]) rfl ⟨set8_below HF.out.1.bel _ _ _ _ _ _ _ _, .inl ⟨_, _, rfl, ?_, HT.out, HF.out.2.2⟩⟩
              exact PapR.ofQ HF.out.2.1 (((((((((OwnQ.mk HF.out.1.ns HF.out.1.ls).set (by omega) _ _).set (by omega) _ _).set (by omega) _ _).set (by omega) _ _).set (by omega) _ _).set (by omega) _ _).set (by omega) _ _).set (by omega) _ _)
  · have hc0' : (tcc != 0) = true := by simpa using hc0
    have HN : Hid (¬ ((tcV p.kind (bodyW wordsS p)).2.2 = 0 ∧ PlcOk p.kind (p.lines.map (lnS p.kind)))) := fun g => hc0 (by have := g.1; rw [← HR.out.2.2.2.2.2.2.2] at this; exact this)
    go_wp2
    exact bodyPost_ret (v := .agg #[.int .i64 0, .string ⟨#[]⟩, .string ⟨#[]⟩, .int .i64 0, .slice none 0 0, .slice none 0 0, .int .i64 ta, .int .i64 tcc]) (by simp [results, Tryz.results77, go_sem, r0, r1, r2, r3, r4, r5, r6, r7]) rfl ⟨set8_below H2.out.2 _ _ _ _ _ _ _ _, .inr ⟨ta, tcc, rfl, hc0, HN.out⟩⟩
end Go.Proofs.YtkaolpnbddjdpaaGreatDoor
