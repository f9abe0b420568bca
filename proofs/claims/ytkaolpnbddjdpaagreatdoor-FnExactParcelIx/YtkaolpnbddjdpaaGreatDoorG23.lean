/- Texts of ours put together: PiR, PiS. -/
import Derived.Test.YtkaolpnbddjdpaaGreatDoorG20
import Derived.Test.YtkaolpnbddjdpaaGreatDoorG22
namespace Go.Proofs.YtkaolpnbddjdpaaGreatDoor
open Go.ChangeShapes Go.WideShapes Go.ChangeAt Go.RowKit
set_option maxRecDepth 20000 in
set_option maxHeartbeats 8000000 in
theorem otherwise_any (v v' : Value) (gs : List Seg) (w : World) (h : RowG w v gs) (h' : RowG w v' gs) (hl : gs.length ≤ 1000) (hE : ∀ g ∈ gs, g.2.length ≤ 1000) : Calls Tryz.prog 157 #[v, v'] w fun e w' => e = .returned (.int .i64 (-1)) ∧ Below w.heap.size w w' := by
  obtain ⟨A, C, rfl⟩ := h.val
  obtain ⟨A', C', rfl⟩ := h'.val
  have H0 : Hid (RowG w (.slice A gs.length C) gs ∧ RowG w (.slice A' gs.length C') gs) := ⟨h, h'⟩
  clear h h'
  go_enter Tryz.func157, Tryz.ntmps157
  go_wp2_with fail
  go_loopw [9] (fun i wr => ∃ k : Nat, i = .int .i64 (k : Int) ∧ k ≤ gs.length ∧ Below w.heap.size w wr) (fun i _ => gs.length - (intOf i).toNat)
  case atStart => exact ⟨0, rfl, by omega, Below.refl _ _⟩
  case round =>
    obtain ⟨k, rfl, hk, hb⟩ := hrel
    by_cases hlt : k < gs.length
    · have hlt' : (k : Int) < (gs.length : Int) := by omega
      obtain ⟨b1, o1, c1, g, u1, e1, hs1, p0, p1, hE1, _⟩ := (H0.out.1.below hb).at hlt
      simp only [Value.slice.injEq, true_and] at e1
      obtain ⟨rfl, rfl⟩ := e1
      obtain ⟨b2, o2, c2, g2, u2, e2, hs2, r0, r1, hE2, _⟩ := (H0.out.2.below hb).at hlt
      simp only [Value.slice.injEq, true_and] at e2
      obtain ⟨rfl, rfl⟩ := e2
      rw [hs1] at hs2
      cases hs2
      obtain ⟨A1, C1, rfl⟩ := hE1.val
      obtain ⟨A2, C2, rfl⟩ := hE2.val
      have hel := hE g (List.mem_of_getElem? hs1)
      obtain ⟨W1, hW1⟩ : ∃ W1, wr.alloc (.cells #[.string g.1, .slice A2 g.2.length C2] 90) = W1 := ⟨_, rfl⟩
      have bw : Below wr.heap.size wr W1 := by rw [← hW1]; exact (Below.refl _ _).alloc (Nat.le_refl _) _
      have y1 : W1.heap[wr.heap.size]? = some (.cells #[.string g.1, .slice A2 g.2.length C2] 90) := by rw [← hW1]; exact World.alloc_heap_new _ _
      obtain ⟨s0, s1, _⟩ := sbox' y1
      have p1' := (bw.cell (cell_lt p1)).trans p1
      obtain ⟨X, hX⟩ : ∃ X, X = wr.heap.size := ⟨_, rfl⟩
      rw [← hX] at s0 s1
      have HB : Hid (Below w.heap.size w W1) := hb.trans (bw.mono hb.size)
      clear hb hE1 hE2 hs1 y1 bw
      go_upto_region 4 with fail
      try rw [hW1]
      try rw [← hX]
      clear hW1 hX p0 p1 r0 r1
      go_region_held3 (fun W => W.cell? ⟨X, 1, none⟩ = some (.slice A2 g.2.length C2) ∧ W.cell? ⟨b1, o1 + k * 2 + 1, none⟩ = some (.slice A1 g.2.length C1)) (go_keep) (fail)
      rename_i hHeld
      clear hHeld
      have HD : Hid (Below w.heap.size w W1.drew) := HB.out.trans ((Below.refl _ _).drew.mono HB.out.size)
      go_wp2
      go_roundw
      case rel => exact ⟨k + 1, by go_num, by omega, HD.out⟩
      case measure => simp [intOf]; omega
    · obtain rfl : k = gs.length := by omega
      have HB : Hid (Below w.heap.size w wr) := hb
      clear hb
      go_wp2
      go_ret
      exact ⟨rfl, HB.out⟩
set_option maxHeartbeats 4000000 in
theorem tcLong_any (n : Int) (A : Option Addr) (C : Nat) (gs : List Seg) (w : World) (hl : 400 < gs.length) (hm : gs.length ≤ 3000000) : Calls Tryz.prog 154 #[.int .i64 n, .slice A gs.length C] w fun e w' => e = .returned (tcVal (tcV n gs)) ∧ Below w.heap.size w w' := by
  have b0 : Below w.heap.size w (w.alloc (.cells #[.int .i64 0, .int .i64 0, .int .i64 0] 156)) := (Below.refl _ _).alloc (Nat.le_refl _) _
  have hl' : (400 : Int) < (gs.length : Int) := by omega
  rw [tcV_big hl]
  go_enter Tryz.func154, Tryz.ntmps154
  go_wp2
  exact bodyPost_ret (v := tcVal (0, 0, 2)) (by simp [results, Tryz.results154, go_sem, tcVal]) rfl ⟨rfl, by first | exact b0 | exact (Below.refl _ _).alloc (Nat.le_refl _) _⟩
theorem hd_bd1 {tag : ByteArray} {ws : List ByteArray} (ht : tag.size ≤ 1048576) (hl : ws.length ≤ 10) (hz : ∀ t ∈ ws, t.size ≤ 1048576) : (hdS tag ws).1.size ≤ 1048576 ∧ (hdS tag ws).2.length ≤ 10 ∧ ∀ e ∈ (hdS tag ws).2, e.length = 1 ∧ ∀ t ∈ e, t.size ≤ 1048576 := by
  refine ⟨ht, by show (ws.map fun t => [t]).length ≤ 10; rw [List.length_map]; exact hl, fun e he => ?_⟩
  obtain ⟨t, ht', rfl⟩ := List.mem_map.1 (show e ∈ ws.map fun t => [t] from he)
  exact ⟨rfl, fun x hx => by rw [List.mem_singleton.1 hx]; exact hz t ht'⟩
theorem sTag_size (k : Int) : (sTag k).size ≤ 1048576 := by
  have : (sTag k).size = 3 := by
    unfold sTag
    split
    · rfl
    · split <;> rfl
  omega
theorem body_bd1 {p : Pap} (hI : PapI p) (hB : BdP 1048576 p) : Bd1 (bodyW wordsI p) := by
  obtain ⟨h1, h2, h3, h4⟩ := hB
  intro g hg
  unfold bodyW at hg
  rcases List.mem_cons.1 hg with rfl | hg
  · exact hd_bd1 (by decide) (by have := docW_len p; omega) (docW_bd hI.1 ⟨h1, h2⟩)
  · rcases List.mem_append.1 hg with hg | hg
    · obtain ⟨t, ht, rfl⟩ := List.mem_map.1 hg
      obtain ⟨i, hi⟩ := List.getElem?_of_mem ht
      exact hd_bd1 (by decide) (by simp) (fun x hx => by rw [List.mem_singleton.1 hx]; exact h3.2 i t hi)
    · obtain ⟨l, hl, rfl⟩ := List.mem_map.1 hg
      obtain ⟨i, hi⟩ := List.getElem?_of_mem hl
      obtain ⟨q1, q2⟩ := wordsI_bd (k := p.kind) (hI.2 l hl) (h4.2 i l hi)
      exact hd_bd1 (sTag_size _) (by omega) q2
theorem Bd1.bdG {gs : List Seg} (h : Bd1 gs) (hl : gs.length ≤ 1048576) : BdG 1048576 gs := by
  refine ⟨hl, fun i g hi => ?_⟩
  obtain ⟨h1, h2, h3⟩ := h g (List.mem_of_getElem? hi)
  refine ⟨h1, by omega, fun j e he => ?_⟩
  obtain ⟨k1, k2⟩ := h3 e (List.mem_of_getElem? he)
  exact ⟨by omega, fun m t ht => k2 t (List.mem_of_getElem? ht)⟩
theorem OwnL.cap {n₀ : Nat} {W : World} {v : Value} {ps : List (Value × List Value)} {gs : List Seg} (h : OwnL n₀ W v ps gs) : CapL v gs.length := by
  rcases h.row.2 with ⟨rfl, h0⟩ | ⟨g, cap, cur, rfl, _, _, hc, hm, _⟩
  · exact ⟨none, 0, by rw [h0], by omega, by unfold maxLen; omega⟩
  · exact ⟨_, cap, rfl, hc, hm⟩
end Go.Proofs.YtkaolpnbddjdpaaGreatDoor
namespace Go.Proofs.YtkaolpnbddjdpaaGreatDoor
open Go.ChangeShapes Go.WideShapes Go.ChangeAt Go.RowKit
theorem box8o {W : World} {B t : Nat} {a0 a1 a2 a3 a4 a5 a6 a7 : Value} (h : W.heap[B]? = some (.cells #[a0, a1, a2, a3, a4, a5, a6, a7] t)) : W.cell? ⟨B, 0, none⟩ = some a0 ∧ W.cell? ⟨B, 1, none⟩ = some a1 ∧ W.cell? ⟨B, 2, none⟩ = some a2 ∧ W.cell? ⟨B, 3, none⟩ = some a3 ∧ W.cell? ⟨B, 4, none⟩ = some a4 ∧ W.cell? ⟨B, 5, none⟩ = some a5 ∧ W.cell? ⟨B, 6, none⟩ = some a6 ∧ W.cell? ⟨B, 7, none⟩ = some a7 := by
  simp [World.cell?, h]
theorem box3o {W : World} {B t : Nat} {a0 a1 a2 : Value} (h : W.heap[B]? = some (.cells #[a0, a1, a2] t)) : W.cell? ⟨B, 0, none⟩ = some a0 ∧ W.cell? ⟨B, 1, none⟩ = some a1 ∧ W.cell? ⟨B, 2, none⟩ = some a2 := by
  simp [World.cell?, h]
theorem papI_rd {p : Pap} (h : PapI p) : PapI (rdP lnI p) := by
  refine ⟨h.1, fun l hl => ?_⟩
  obtain ⟨m, hm, rfl⟩ := List.mem_map.1 (show l ∈ p.lines.map (lnI p.kind) from hl)
  obtain ⟨h0, h1, h2⟩ := h.2 m hm
  have z : i64B 0 := ⟨by omega, by omega⟩
  unfold lnI
  repeat' split
  all_goals exact ⟨by first | exact h0 | exact z, by first | exact h1 | exact z, by first | exact h2 | exact z⟩
theorem bdP_rd {p : Pap} (h : BdP 1048576 p) : BdP 1048576 (rdP lnI p) := by
  obtain ⟨h1, h2, h3, h4⟩ := h
  refine ⟨h1, ?_, h3, by show (p.lines.map (lnI p.kind)).length ≤ _; rw [List.length_map]; exact h4.1, fun i l hi => ?_⟩
  · show (if hasO p.kind = true then p.other else eT).size ≤ _
    split
    · exact h2
    · exact Nat.zero_le _
  · have hi' : (p.lines.map (lnI p.kind))[i]? = some l := hi
    rw [List.getElem?_map] at hi'
    cases hm : p.lines[i]? with
    | none => rw [hm] at hi'; cases hi'
    | some m =>
      rw [hm] at hi'
      simp only [Option.map_some, Option.some.injEq] at hi'
      subst hi'
      have hz := h4.2 i m hm
      have e0 : eT.size = 0 := rfl
      unfold lnI
      repeat' split
      all_goals exact ⟨by simp only [e0]; omega, by simp only [e0]; omega⟩
theorem words_rd (k : Int) (l : Ln) : wordsI k (lnI k l) = wordsI k l := by
  unfold wordsI lnI
  repeat' split
  all_goals first | rfl | omega
theorem body_rd (p : Pap) : bodyW wordsI (rdP lnI p) = bodyW wordsI p := by
  have e1 : docW (rdP lnI p) = docW p := by
    show (if hasO p.kind = true then [p.ref, (if hasO p.kind = true then p.other else eT), decS p.day] else [p.ref, decS p.day]) = docW p
    unfold docW
    split
    · rfl
    · rfl
  unfold bodyW
  rw [e1]
  show hdS sDOC (docW p) :: (p.notes.map noteG ++ (p.lines.map (lnI p.kind)).map (lineG wordsI p.kind)) = _
  rw [List.map_map]
  congr 2
  apply List.map_congr_left
  intro l _
  show hdS (sTag p.kind) (wordsI p.kind (lnI p.kind l)) = _
  rw [words_rd]
  rfl
/-- What PaperOf tells of a told body. -/
def PoOut (p : Pap) (w : World) (e : Ending) (w' : World) : Prop :=
  Below w.heap.size w w' ∧ ((∃ vn vl, e = .returned (.agg #[.int .i64 (rdP lnI p).kind, .string (rdP lnI p).ref, .string (rdP lnI p).other, .int .i64 (rdP lnI p).day, vn, vl, .int .i64 0, .int .i64 0]) ∧ PapR w' vn vl (rdP lnI p) ∧ OwnQ w.heap.size w' (rdP lnI p) vn vl ∧ (tcV p.kind (bodyW wordsI p)).2.2 = 0 ∧ PlcOk p.kind (p.lines.map (lnI p.kind))) ∨
    (∃ a c : Int, e = .returned (.agg #[.int .i64 0, .string ⟨#[]⟩, .string ⟨#[]⟩, .int .i64 0, .slice none 0 0, .slice none 0 0, .int .i64 a, .int .i64 c]) ∧ c ≠ 0 ∧ ¬ ((tcV p.kind (bodyW wordsI p)).2.2 = 0 ∧ PlcOk p.kind (p.lines.map (lnI p.kind)))))
theorem set8_below {w W : World} (h : Below w.heap.size w W) (a0 a1 a2 a3 a4 a5 a6 a7 : Value) : Below w.heap.size w ((((((((W.setCell ⟨w.heap.size, 0, none⟩ a0).setCell ⟨w.heap.size, 1, none⟩ a1).setCell ⟨w.heap.size, 2, none⟩ a2).setCell ⟨w.heap.size, 3, none⟩ a3).setCell ⟨w.heap.size, 4, none⟩ a4).setCell ⟨w.heap.size, 5, none⟩ a5).setCell ⟨w.heap.size, 6, none⟩ a6).setCell ⟨w.heap.size, 7, none⟩ a7) :=
  (((((((h.setCell (Nat.le_refl _) _).setCell (Nat.le_refl _) _).setCell (Nat.le_refl _) _).setCell (Nat.le_refl _) _).setCell (Nat.le_refl _) _).setCell (Nat.le_refl _) _).setCell (Nat.le_refl _) _).setCell (Nat.le_refl _) _
set_option maxRecDepth 20000 in
set_option maxHeartbeats 16000000 in
theorem paperOfI_any (p : Pap) (v : Value) (w : World) (hk : 1 ≤ p.kind ∧ p.kind ≤ 7) (hI : PapI p) (hB : BdP 1048576 p) (hl20 : p.lines.length ≤ 20) (h : RowG w v (bodyW wordsI p)) (hc : CapL v (bodyW wordsI p).length) (hV : VarsAt w) :
    Calls Tryz.prog 123 #[.int .i64 p.kind, v] w fun e w' => PoOut p w e w' := by
  have hb1 := body_bd1 hI hB
  have hn0 := hB.2.2.1.1
  have hlen : (bodyW wordsI p).length = 1 + (p.notes.length + p.lines.length) := body_len wordsI p
  obtain ⟨A, C, rfl, hlC, hCm⟩ := hc
  obtain ⟨N, hN⟩ : ∃ N, N = (bodyW wordsI p).length := ⟨_, rfl⟩
  obtain ⟨W0, hW0⟩ : ∃ W0, w.alloc (.cells #[.int .i64 0, .string ⟨#[]⟩, .string ⟨#[]⟩, .int .i64 0, .slice none 0 0, .slice none 0 0, .int .i64 0, .int .i64 0] 127) = W0 := ⟨_, rfl⟩
  have hb0 : Below w.heap.size w W0 := by rw [← hW0]; exact (Below.refl _ _).alloc (Nat.le_refl _) _
  have x0 : W0.heap[w.heap.size]? = some (.cells #[.int .i64 0, .string ⟨#[]⟩, .string ⟨#[]⟩, .int .i64 0, .slice none 0 0, .slice none 0 0, .int .i64 0, .int .i64 0] 127) := by rw [← hW0]; exact World.alloc_heap_new _ _
  have hs0 : W0.heap.size = w.heap.size + 1 := by rw [← hW0]; simp
  have HX : Hid (∀ W, Below W0.heap.size W0 W → W.heap[w.heap.size]? = some (.cells #[.int .i64 0, .string ⟨#[]⟩, .string ⟨#[]⟩, .int .i64 0, .slice none 0 0, .slice none 0 0, .int .i64 0, .int .i64 0] 127)) := fun W hW => (hW.block _ (by omega)).trans x0
  obtain ⟨tcr, htcr⟩ : ∃ tcr, tcr = tcV p.kind (bodyW wordsI p) := ⟨_, rfl⟩
  have QT : Hid (Calls Tryz.prog 154 #[.int .i64 p.kind, .slice A N C] W0 fun e w' => e = .returned (tcVal tcr) ∧ Below W0.heap.size W0 w') := by
    rw [hN, htcr]
    rcases Nat.lt_or_ge 400 (bodyW wordsI p).length with q | q
    · exact tcLong_any p.kind A C (bodyW wordsI p) W0 q (by omega)
    · exact tableCheck_impl p.kind _ (bodyW wordsI p) W0 (h.below hb0) (hb1.bdG (by omega)) ⟨A, C, rfl, hlC, hCm⟩ (hV.below hb0).tabs (hV.below hb0).errs
  have HR : Hid (RowG W0 (.slice A N C) (bodyW wordsI p) ∧ Below w.heap.size w W0 ∧ VarsAt W0 ∧ Bd1 (bodyW wordsI p) ∧ PapI p ∧ BdP 1048576 p ∧ N = (bodyW wordsI p).length ∧ (bodyW wordsI p).length = 1 + (p.notes.length + p.lines.length) ∧ tcr = tcV p.kind (bodyW wordsI p)) := ⟨by rw [hN]; exact h.below hb0, hb0, hV.below hb0, hb1, hI, hB, hN, hlen, htcr⟩
  have hNb : N ≤ 3000000 := by omega
  obtain ⟨ta, te, tcc⟩ := tcr
  rw [← hN]
  clear h hV hb1 hI hB hlen hN htcr hb0 x0 hs0 hlC hCm hn0
  go_enter Tryz.func123, Tryz.ntmps123
  go_upto_region 1 with fail
  try rw [hW0]
  clear hW0
  go_wp2_with fail
  refine QT.out.mono ?_
  rintro e w1 ⟨rfl, hb1⟩
  unfold tcVal
  obtain ⟨W2, hW2⟩ : ∃ W2, w1.alloc (.cells #[.int .i64 ta, .int .i64 te, .int .i64 tcc] 156) = W2 := ⟨_, rfl⟩
  have b2 : Below W0.heap.size W0 W2 := by rw [← hW2]; exact hb1.trans (((Below.refl _ _).alloc (Nat.le_refl _) _).mono hb1.size)
  have y2 : W2.heap[w1.heap.size]? = some (.cells #[.int .i64 ta, .int .i64 te, .int .i64 tcc] 156) := by rw [← hW2]; exact World.alloc_heap_new _ _
  obtain ⟨t0, t1, t2⟩ := box3o y2
  obtain ⟨X, hX⟩ : ∃ X, X = w1.heap.size := ⟨_, rfl⟩
  rw [← hX] at t0 t1 t2
  have H2 : Hid (Below W0.heap.size W0 W2) := b2
  have HD : Hid (w1.alloc (.cells #[.int .i64 ta, .int .i64 te, .int .i64 tcc] 156) = W2 ∧ X = w1.heap.size) := ⟨hW2, hX⟩
  clear hW2 hX b2 y2 hb1 QT
  go_upto_region 2 with fail
  try rw [HD.out.1]
  try rw [← HD.out.2]
  clear HD
  by_cases hc0 : tcc = 0
  · subst hc0
    have HT : Hid ((tcV p.kind (bodyW wordsI p)).2.2 = 0) := by show _ = _; rw [← HR.out.2.2.2.2.2.2.2.2]
    have hmost := tcV_most HT.out
    have hnn : p.notes.length ≤ 40 := by have := HR.out.2.2.2.2.2.2.2.1; omega
    clear hmost
    go_wp2_with fail
    refine (paperOf_any p _ W2 hk HR.out.2.2.2.2.1 HR.out.2.2.2.2.2.1 hnn hl20 (HR.out.1.below H2.out) (HR.out.2.2.1.below H2.out)).mono ?_
    rintro e w3 ⟨vn, vl, rfl, hP3, hcap, hOQ, hb3⟩
    obtain ⟨q, hq⟩ : ∃ q, q = rdP lnI p := ⟨_, rfl⟩
    rw [← hq] at hP3 hcap hOQ
    rw [← hq]
    have hqk : q.kind = p.kind := by rw [hq]; rfl
    have HQ : Hid (q = rdP lnI p ∧ q.kind = p.kind ∧ q.lines = p.lines.map (lnI p.kind)) := ⟨hq, hqk, by rw [hq]; rfl⟩
    have hkq : 1 ≤ q.kind ∧ q.kind ≤ 7 := by rw [hqk]; exact hk
    have hlq : q.lines.length ≤ 20 := by rw [HQ.out.2.2, List.length_map]; exact hl20
    clear hq hqk
    obtain ⟨An, Nn, Cn, hvn⟩ := row_slice hOQ.ns
    obtain ⟨Al, Cl, hvl, hcl, hcm⟩ := hcap
    have hcap : CapL vl q.lines.length := ⟨Al, Cl, hvl, hcl, hcm⟩
    subst hvn hvl
    obtain ⟨W4, hW4⟩ : ∃ W4, w3.alloc (.cells #[.int .i64 q.kind, .string q.ref, .string q.other, .int .i64 q.day, .slice An Nn Cn, .slice Al q.lines.length Cl] 66) = W4 := ⟨_, rfl⟩
    have b4 : Below w3.heap.size w3 W4 := by rw [← hW4]; exact (Below.refl _ _).alloc (Nat.le_refl _) _
    have yh : W4.heap[w3.heap.size]? = some (.cells #[.int .i64 q.kind, .string q.ref, .string q.other, .int .i64 q.day, .slice An Nn Cn, .slice Al q.lines.length Cl] 66) := by rw [← hW4]; exact World.alloc_heap_new _ _
    obtain ⟨Y, hY⟩ : ∃ Y, Y = w3.heap.size := ⟨_, rfl⟩
    have HY : Hid (∀ W, Below W4.heap.size W4 W → W.cell? ⟨Y, 0, none⟩ = some (.int .i64 q.kind) ∧ W.cell? ⟨Y, 1, none⟩ = some (.string q.ref) ∧ W.cell? ⟨Y, 2, none⟩ = some (.string q.other) ∧ W.cell? ⟨Y, 3, none⟩ = some (.int .i64 q.day) ∧ W.cell? ⟨Y, 4, none⟩ = some (.slice An Nn Cn) ∧ W.cell? ⟨Y, 5, none⟩ = some (.slice Al q.lines.length Cl)) := fun W hW => by
      rw [hY]
      exact pbox ((hW.block _ (Array.getElem?_eq_some_iff.1 yh).1).trans yh)
    have z2 := H2.out.size
    have H4 : Hid (Below W0.heap.size W0 W4 ∧ PapR W4 (.slice An Nn Cn) (.slice Al q.lines.length Cl) q ∧ OwnQ (W2.heap.size + 2) W4 q (.slice An Nn Cn) (.slice Al q.lines.length Cl)) := ⟨H2.out.trans ((hb3.trans (b4.mono hb3.size)).mono z2), hP3.below b4, hOQ.below b4⟩
    obtain ⟨y0, y1, y2, y3, y4, y5⟩ := HY.out W4 (Below.refl _ _)
    have HD : Hid (w3.alloc (.cells #[.int .i64 q.kind, .string q.ref, .string q.other, .int .i64 q.day, .slice An Nn Cn, .slice Al q.lines.length Cl] 66) = W4 ∧ Y = w3.heap.size) := ⟨hW4, hY⟩
    clear hW4 hY b4 yh hb3 hP3 hOQ t0 t1 t2
    go_upto_region 5 with fail
    try rw [HD.out.1]
    try rw [← HD.out.2]
    clear HD
    go_wp2_with fail
    refine (outOfPlace_any q _ _ W4 hkq H4.out.2.1 hcap hlq).mono ?_
    rintro e w5 ⟨r, rfl, hr, hb5⟩
    have H5 : Hid (Below W0.heap.size W0 w5 ∧ PapR w5 (.slice An Nn Cn) (.slice Al q.lines.length Cl) q ∧ OwnQ (W2.heap.size + 2) w5 q (.slice An Nn Cn) (.slice Al q.lines.length Cl) ∧ Below W4.heap.size W4 w5) := ⟨H4.out.1.trans (hb5.mono H4.out.1.size), H4.out.2.1.below hb5, H4.out.2.2.below hb5, hb5⟩
    clear hb5 y0 y1 y2 y3 y4 y5
    obtain ⟨y0, y1, y2, y3, y4, y5⟩ := HY.out w5 H5.out.2.2.2
    rcases hr with ⟨rfl, hpl⟩ | ⟨hr0, hr1, hpl⟩
    · have HPl : Hid (PlcOk p.kind (p.lines.map (lnI p.kind))) := by show PlcOk _ _; rw [← HQ.out.2.2, ← HQ.out.2.1]; exact hpl
      clear hpl
      have hIq : PapI q := by rw [HQ.out.1]; exact papI_rd HR.out.2.2.2.2.1
      have hBq : BdP 1048576 q := by rw [HQ.out.1]; exact bdP_rd HR.out.2.2.2.2.2.1
      have hV5 : VarsAt w5 := HR.out.2.2.1.below H5.out.1
      have hbody : bodyW wordsI q = bodyW wordsI p := by rw [HQ.out.1]; exact body_rd p
      go_wp2_with fail
      refine (bodyOf_any q _ _ w5 hkq hIq H5.out.2.1 hBq hV5).mono ?_
      rintro e w6 ⟨u6, ps6, rfl, hL6, hb6⟩
      rw [hbody] at hL6
      obtain ⟨A6, C6, hu6⟩ := hL6.slice
      subst hu6
      have hw6 := H5.out.1.trans (hb6.mono H5.out.1.size)
      have H6 : Hid (Below W0.heap.size W0 w6 ∧ RowG w6 (.slice A6 (bodyW wordsI p).length C6) (bodyW wordsI p) ∧ RowG w6 (.slice A N C) (bodyW wordsI p) ∧ Below w5.heap.size w5 w6 ∧ (bodyW wordsI p).length ≤ 1000 ∧ (∀ g ∈ (bodyW wordsI p), g.2.length ≤ 1000)) := ⟨hw6, hL6.rowT HR.out.2.2.2.1 (by have := tcV_most HT.out; omega), HR.out.1.below hw6, hb6, by have := tcV_most HT.out; omega, fun g hg => by have := (HR.out.2.2.2.1 g hg).2.1; omega⟩
      clear hL6 hb6 hw6 hIq hBq hV5 hbody
      go_wp2_with fail
      refine (otherwise_any _ _ (bodyW wordsI p) w6 H6.out.2.2.1 H6.out.2.1 H6.out.2.2.2.2.1 H6.out.2.2.2.2.2).mono ?_
      rintro e w7 ⟨rfl, hb7⟩
      have b57 : Below w5.heap.size w5 w7 := H6.out.2.2.2.1.trans (hb7.mono H6.out.2.2.2.1.size)
      have H7 : Hid (Below W0.heap.size W0 w7 ∧ PapR w7 (.slice An Nn Cn) (.slice Al q.lines.length Cl) q ∧ OwnQ (W2.heap.size + 2) w7 q (.slice An Nn Cn) (.slice Al q.lines.length Cl) ∧ Below W4.heap.size W4 w7 ∧ w.heap.size < W2.heap.size + 2) := ⟨H6.out.1.trans (hb7.mono H6.out.1.size), H5.out.2.1.below b57, H5.out.2.2.1.below b57, H5.out.2.2.2.trans (b57.mono H5.out.2.2.2.size), by have := HR.out.2.1.size; omega⟩
      clear hb7 b57 y0 y1 y2 y3 y4 y5
      obtain ⟨y0, y1, y2, y3, y4, y5⟩ := HY.out w7 H7.out.2.2.2.1
      obtain ⟨r0, r1, r2, r3, r4, r5, r6, r7⟩ := box8o (HX.out w7 H7.out.1)
      have rz := frz5 (HX.out w7 H7.out.1)
      have HBw : Hid (Below w.heap.size w w7) := HR.out.2.1.trans (H7.out.1.mono HR.out.2.1.size)
      go_wp2
      refine bodyPost_ret (v := .agg #[.int .i64 q.kind, .string q.ref, .string q.other, .int .i64 q.day, .slice An Nn Cn, .slice Al q.lines.length Cl, .int .i64 0, .int .i64 0]) (by simp [results, Tryz.results123, go_sem, r0, r1, r2, r3, r4, r5, r6, r7]) rfl ⟨set8_below HBw.out _ _ _ _ _ _ _ _, .inl ⟨.slice An Nn Cn, .slice Al q.lines.length Cl, by rw [HQ.out.1], ?_, ?_, HT.out, HPl.out⟩⟩
      · rw [← HQ.out.1]
        exact H7.out.2.1.ofQ ((((((((H7.out.2.2.1.set H7.out.2.2.2.2 _ _).set H7.out.2.2.2.2 _ _).set H7.out.2.2.2.2 _ _).set H7.out.2.2.2.2 _ _).set H7.out.2.2.2.2 _ _).set H7.out.2.2.2.2 _ _).set H7.out.2.2.2.2 _ _).set H7.out.2.2.2.2 _ _)
      · rw [← HQ.out.1]
        exact OwnQ.mono ((((((((H7.out.2.2.1.set H7.out.2.2.2.2 _ _).set H7.out.2.2.2.2 _ _).set H7.out.2.2.2.2 _ _).set H7.out.2.2.2.2 _ _).set H7.out.2.2.2.2 _ _).set H7.out.2.2.2.2 _ _).set H7.out.2.2.2.2 _ _).set H7.out.2.2.2.2 _ _) (Nat.le_of_lt H7.out.2.2.2.2)
    · have HN : Hid (¬ ((tcV p.kind (bodyW wordsI p)).2.2 = 0 ∧ PlcOk p.kind (p.lines.map (lnI p.kind)))) := fun g => hpl (by rw [HQ.out.2.1, HQ.out.2.2]; exact g.2)
      obtain ⟨r0, r1, r2, r3, r4, r5, r6, r7⟩ := box8o (HX.out w5 H5.out.1)
      have rz := frz5 (HX.out w5 H5.out.1)
      have HBw : Hid (Below w.heap.size w w5) := HR.out.2.1.trans (H5.out.1.mono HR.out.2.1.size)
      have hr0' : (0 : Int) ≤ r := hr0
      clear hpl
      go_wp2
      exact bodyPost_ret (v := .agg #[.int .i64 0, .string ⟨#[]⟩, .string ⟨#[]⟩, .int .i64 0, .slice none 0 0, .slice none 0 0, .int .i64 _, .int .i64 11]) (by simp [results, Tryz.results123, go_sem, r0, r1, r2, r3, r4, r5, r6, r7]; rfl) rfl ⟨set8_below HBw.out _ _ _ _ _ _ _ _, .inr ⟨_, 11, rfl, by omega, HN.out⟩⟩
  · have hc0' : (tcc != 0) = true := by simpa using hc0
    have HN : Hid (¬ ((tcV p.kind (bodyW wordsI p)).2.2 = 0 ∧ PlcOk p.kind (p.lines.map (lnI p.kind)))) := fun g => hc0 (by have := g.1; rw [← HR.out.2.2.2.2.2.2.2.2] at this; exact this)
    obtain ⟨r0, r1, r2, r3, r4, r5, r6, r7⟩ := box8o (HX.out W2 H2.out)
    have rz := frz5 (HX.out W2 H2.out)
    have HBw : Hid (Below w.heap.size w W2) := HR.out.2.1.trans (H2.out.mono HR.out.2.1.size)
    go_wp2
    exact bodyPost_ret (v := .agg #[.int .i64 0, .string ⟨#[]⟩, .string ⟨#[]⟩, .int .i64 0, .slice none 0 0, .slice none 0 0, .int .i64 ta, .int .i64 tcc]) (by simp [results, Tryz.results123, go_sem, r0, r1, r2, r3, r4, r5, r6, r7]) rfl ⟨set8_below HBw.out _ _ _ _ _ _ _ _, .inr ⟨ta, tcc, rfl, hc0, HN.out⟩⟩
end Go.Proofs.YtkaolpnbddjdpaaGreatDoor
