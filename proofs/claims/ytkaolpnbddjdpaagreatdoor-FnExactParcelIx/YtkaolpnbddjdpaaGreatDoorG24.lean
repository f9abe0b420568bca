/- Texts of ours put together: PiT, SameI. -/
import Derived.Test.YtkaolpnbddjdpaaGreatDoorG23
import Derived.Test.YtkaolpnbddjdpaaGreatDoorG02
import Derived.Deep.RegionHeld3
import Derived.Laws.StructEq
namespace Go.Proofs.YtkaolpnbddjdpaaGreatDoor
open Go.ChangeShapes Go.WideShapes Go.ChangeAt Go.RowKit
/-- The same, in one form: what stands behind the fields that PaperOf tells. -/
def PoAlt (p : Pap) (B : Nat) (w' : World) (k : Int) (r o : ByteArray) (d : Int) (An : Option Addr) (Nn Cn : Nat) (Al : Option Addr) (Nl Cl : Nat) (_a c : Int) : Prop :=
  (c = 0 ∧ k = (rdP lnI p).kind ∧ r = (rdP lnI p).ref ∧ o = (rdP lnI p).other ∧ d = (rdP lnI p).day ∧ PapR w' (.slice An Nn Cn) (.slice Al Nl Cl) (rdP lnI p) ∧ OwnQ B w' (rdP lnI p) (.slice An Nn Cn) (.slice Al Nl Cl) ∧ (tcV p.kind (bodyW wordsI p)).2.2 = 0 ∧ PlcOk p.kind (p.lines.map (lnI p.kind))) ∨ (c ≠ 0 ∧ ¬ ((tcV p.kind (bodyW wordsI p)).2.2 = 0 ∧ PlcOk p.kind (p.lines.map (lnI p.kind))))
theorem paperOfJ_any (p : Pap) (v : Value) (w : World) (hk : 1 ≤ p.kind ∧ p.kind ≤ 7) (hI : PapI p) (hB : BdP 1048576 p) (hl20 : p.lines.length ≤ 20) (h : RowG w v (bodyW wordsI p)) (hc : CapL v (bodyW wordsI p).length) (hV : VarsAt w) :
    Calls Tryz.prog 123 #[.int .i64 p.kind, v] w fun e w' => (∃ k r o d An Nn Cn Al Nl Cl a c, e = .returned (.agg #[.int .i64 k, .string r, .string o, .int .i64 d, .slice An Nn Cn, .slice Al Nl Cl, .int .i64 a, .int .i64 c]) ∧ PoAlt p w.heap.size w' k r o d An Nn Cn Al Nl Cl a c) ∧ Below w.heap.size w w' := by
  refine (paperOfI_any p v w hk hI hB hl20 h hc hV).mono ?_
  rintro e w' ⟨hb, (⟨vn, vl, rfl, hP, hO, ht, hp⟩ | ⟨a, c, rfl, hc, hn⟩)⟩
  · obtain ⟨An, Nn, Cn, hvn⟩ := row_slice hO.ns
    obtain ⟨Al, Nl, Cl, hvl⟩ := row_slice5 hO.ls
    subst hvn hvl
    exact ⟨⟨_, _, _, _, An, Nn, Cn, Al, Nl, Cl, 0, 0, rfl, .inl ⟨rfl, rfl, rfl, rfl, rfl, hP, hO, ht, hp⟩⟩, hb⟩
  · exact ⟨⟨_, _, _, _, none, 0, 0, none, 0, 0, a, c, rfl, .inr ⟨hc, hn⟩⟩, hb⟩
theorem PoAlt.below {p : Pap} {B : Nat} {W W' : World} {k : Int} {r : ByteArray} {o : ByteArray} {d : Int} {An : Option Addr} {Nn : Nat} {Cn : Nat} {Al : Option Addr} {Nl : Nat} {Cl : Nat} {a : Int} {c : Int} (h : PoAlt p B W k r o d An Nn Cn Al Nl Cl a c) (hb : Below W.heap.size W W') : PoAlt p B W' k r o d An Nn Cn Al Nl Cl a c := by
  rcases h with ⟨h0, h1, h2, h3, h4, h5, h6, h7⟩ | h
  · exact .inl ⟨h0, h1, h2, h3, h4, h5.below hb, h6.below hb, h7⟩
  · exact .inr h
theorem PoAlt.set {p : Pap} {B b : Nat} {W : World} {k : Int} {r : ByteArray} {o : ByteArray} {d : Int} {An : Option Addr} {Nn : Nat} {Cn : Nat} {Al : Option Addr} {Nl : Nat} {Cl : Nat} {a : Int} {c : Int} (h : PoAlt p B W k r o d An Nn Cn Al Nl Cl a c) (hb : b < B) (i : Nat) (x : Value) : PoAlt p B (W.setCell ⟨b, i, none⟩ x) k r o d An Nn Cn Al Nl Cl a c := by
  rcases h with ⟨h0, h1, h2, h3, h4, h5, h6, h7⟩ | h
  · exact .inl ⟨h0, h1, h2, h3, h4, h5.ofQ (h6.set hb i x), h6.set hb i x, h7⟩
  · exact .inr h
theorem PoAlt.set8 {p : Pap} {B b : Nat} {W : World} {k : Int} {r : ByteArray} {o : ByteArray} {d : Int} {An : Option Addr} {Nn : Nat} {Cn : Nat} {Al : Option Addr} {Nl : Nat} {Cl : Nat} {a : Int} {c : Int} (h : PoAlt p B W k r o d An Nn Cn Al Nl Cl a c) (hb : b < B) {y0 y1 y2 y3 y4 y5 y6 y7 : Value} : PoAlt p B ((((((((W.setCell ⟨b, 0, none⟩ y0).setCell ⟨b, 1, none⟩ y1).setCell ⟨b, 2, none⟩ y2).setCell ⟨b, 3, none⟩ y3).setCell ⟨b, 4, none⟩ y4).setCell ⟨b, 5, none⟩ y5).setCell ⟨b, 6, none⟩ y6).setCell ⟨b, 7, none⟩ y7) k r o d An Nn Cn Al Nl Cl a c :=
  (((((((h.set hb _ _).set hb _ _).set hb _ _).set hb _ _).set hb _ _).set hb _ _).set hb _ _).set hb _ _
theorem unallocP {a b : World} {o : Obj} (h : Below (a.alloc o).heap.size (a.alloc o) b) : Below a.heap.size a b := ((Below.refl _ _).alloc (Nat.le_refl _) _).trans (h.mono (by simp))
theorem boxNewP {a b : World} {o : Obj} (h : Below (a.alloc o).drew.heap.size (a.alloc o).drew b) : b.heap[a.heap.size]? = some o := (h.block a.heap.size (by show a.heap.size < (a.alloc o).heap.size; simp)).trans (World.alloc_heap_new a o)
theorem boxNewQ {a b : World} {o : Obj} (h : Below (a.alloc o).heap.size (a.alloc o) b) : b.heap[a.heap.size]? = some o := (h.block a.heap.size (by simp)).trans (World.alloc_heap_new a o)
theorem setB8P {n P : Nat} {a W : World} {y0 y1 y2 y3 y4 y5 y6 y7 : Value} (h : Below n a W) (hP : n ≤ P) : Below n a ((((((((W.setCell ⟨P, 0, none⟩ y0).setCell ⟨P, 1, none⟩ y1).setCell ⟨P, 2, none⟩ y2).setCell ⟨P, 3, none⟩ y3).setCell ⟨P, 4, none⟩ y4).setCell ⟨P, 5, none⟩ y5).setCell ⟨P, 6, none⟩ y6).setCell ⟨P, 7, none⟩ y7) :=
  (((((((h.setCell hP _).setCell hP _).setCell hP _).setCell hP _).setCell hP _).setCell hP _).setCell hP _).setCell hP _
theorem set8P {W : World} {b t : Nat} {x0 x1 x2 x3 x4 x5 x6 x7 y0 y1 y2 y3 y4 y5 y6 y7 : Value} (h : W.heap[b]? = some (.cells #[x0, x1, x2, x3, x4, x5, x6, x7] t)) :
    ((((((((W.setCell ⟨b, 0, none⟩ y0).setCell ⟨b, 1, none⟩ y1).setCell ⟨b, 2, none⟩ y2).setCell ⟨b, 3, none⟩ y3).setCell ⟨b, 4, none⟩ y4).setCell ⟨b, 5, none⟩ y5).setCell ⟨b, 6, none⟩ y6).setCell ⟨b, 7, none⟩ y7).heap[b]? = some (.cells #[y0, y1, y2, y3, y4, y5, y6, y7] t) := by
  simp [World.setCell, Array.getElem?_modify, h]
/-- What lies in PaperRight's box behind PaperOf. -/
def PrX (p : Pap) (W0 wx : World) (P : Nat) : Prop := Below W0.heap.size W0 wx ∧ ∃ B k r o d An Nn Cn Al Nl Cl a c, wx.heap[P]? = some (.cells #[.int .i64 k, .string r, .string o, .int .i64 d, .slice An Nn Cn, .slice Al Nl Cl, .int .i64 a, .int .i64 c] 127) ∧ PoAlt p B wx k r o d An Nn Cn Al Nl Cl a c
theorem papB_no {p : Pap} (h : ¬ PapOk p) : papB p = false := by simp [papB, h]
theorem papB_yes {p : Pap} (h : PapOk p) : papB p = true := by simp [papB, h]
end Go.Proofs.YtkaolpnbddjdpaaGreatDoor
namespace Go.Proofs.YtkaolpnbddjdpaaGreatDoor
open Go.ChangeShapes Go.WideShapes Go.ChangeAt Go.RowKit
theorem toList_ne {s t : ByteArray} (h : s ≠ t) : (s.toList == t.toList) = false ∧ (s.toList != t.toList) = true ∧ ¬ s.toList = t.toList := by
  have h0 : ¬ s.toList = t.toList := fun e => h (by rw [ByteArray.toList_eq, ByteArray.toList_eq] at e; exact ByteArray.ext (Array.toList_inj.1 e))
  exact ⟨by rw [beq_eq_false_iff_ne]; exact h0, by rw [bne_iff_ne]; exact h0, h0⟩
set_option maxHeartbeats 1000000 in
theorem equal_any (v v' : Value) (ss tt : List ByteArray) (w : World) (h : RowS w v ss) (h' : RowS w v' tt) :
    Calls Tryz.prog 74 #[v, v'] w fun e w' => (∃ B : Bool, e = .returned (.bool B) ∧ (B = true ↔ ss = tt)) ∧ Below w.heap.size w w' := by
  have hlen := h.len
  have hlen' := h'.len
  obtain ⟨a, cap, rfl⟩ := h.val
  obtain ⟨a', cap', rfl⟩ := h'.val
  have H : Hid (RowS w (.slice a ss.length cap) ss ∧ RowS w (.slice a' tt.length cap') tt) := ⟨h, h'⟩
  clear h h'
  by_cases hl : ss.length = tt.length
  · have HL : Hid (ss.length = tt.length) := hl
    have hl1 : ((ss.length : Int) != (tt.length : Int)) = false := by simp [hl]
    have hl2 : ((ss.length : Int) == (tt.length : Int)) = true := by simp [hl]
    clear hl
    go_enter Tryz.func74, Tryz.ntmps74
    go_wp2
    go_loopw [13] (fun i wr => ∃ k : Nat, i = .int .i64 (k : Int) ∧ k ≤ ss.length ∧ (∀ j, j < k → ss[j]? = tt[j]?) ∧ Below w.heap.size w wr) (fun i _ => ss.length - (intOf i).toNat)
    case atStart => exact ⟨0, rfl, by omega, fun j hj => by omega, Below.refl _ _⟩
    case round =>
      obtain ⟨k, rfl, hk, hA, hb⟩ := hrel
      have HA : Hid (∀ j, j < k → ss[j]? = tt[j]?) := hA
      clear hA
      by_cases hlt : k < ss.length
      · have hlt' : (k : Int) < (ss.length : Int) := by omega
        have hltt : (k : Int) < (tt.length : Int) := by have := HL.out; omega
        obtain ⟨b, o, c1, s, e, hs, hc, hsz⟩ := (H.out.1.below hb).at hlt
        obtain ⟨b', o', c2, s', e', hs', hc', hsz'⟩ := (H.out.2.below hb).at (show k < tt.length by omega)
        simp only [Value.slice.injEq, true_and] at e e'
        obtain ⟨rfl, rfl⟩ := e
        obtain ⟨rfl, rfl⟩ := e'
        have HB : Hid (Below w.heap.size w wr ∧ ss[k]? = some s ∧ tt[k]? = some s') := ⟨hb, hs, hs'⟩
        clear hs hs' hb
        by_cases hne : s = s'
        · subst hne
          go_wp2
          go_quiet (fail)
          go_wp2
          go_roundw
          case rel =>
            refine ⟨k + 1, by go_num, by omega, fun j hj => ?_, below_drewN HB.out.1 _⟩
            rcases Nat.lt_or_ge j k with g | g
            · exact HA.out j g
            · obtain rfl : j = k := by omega
              rw [HB.out.2.1, HB.out.2.2]
          case measure => simp [intOf]; omega
        · obtain ⟨n1, n2, n3⟩ := toList_ne hne
          have HN : Hid (s ≠ s') := hne
          clear hne
          go_wp2
          go_quiet (fail)
          go_wp2
          go_ret
          refine ⟨⟨false, rfl, by simp; intro e; rw [e, HB.out.2.2] at HB; exact HN.out (Option.some.inj HB.out.2.1).symm⟩, below_drewN HB.out.1 _⟩
      · obtain rfl : k = ss.length := by omega
        have HB : Hid (Below w.heap.size w wr) := hb
        clear hb
        go_wp2
        go_ret
        have hEq : ss = tt := List.ext_getElem? fun j => by
          rcases Nat.lt_or_ge j ss.length with g | g
          · exact HA.out j g
          · rw [List.getElem?_eq_none g, List.getElem?_eq_none (by have := HL.out; omega)]
        exact ⟨⟨true, rfl, by simp [hEq]⟩, HB.out⟩
  · have hl1 : ((ss.length : Int) != (tt.length : Int)) = true := by rw [bne_iff_ne]; omega
    have hl2 : ((ss.length : Int) == (tt.length : Int)) = false := by rw [beq_eq_false_iff_ne]; omega
    have hl3 : ¬ (ss.length : Int) = (tt.length : Int) := by omega
    have HL : Hid (¬ ss.length = tt.length) := hl
    clear hl
    go_enter Tryz.func74, Tryz.ntmps74
    go_wp2
    go_ret
    exact ⟨⟨false, rfl, by simp; intro e; exact HL.out (congrArg List.length e)⟩, Below.refl _ _⟩
/-- Are two lines other ones? As the walk tells it. -/
def lnE (g g' : Ln) : Bool := (g.no == g'.no) && ((g.item.toList == g'.item.toList) && ((g.qty == g'.qty) && ((g.money == g'.money) && (g.note.toList == g'.note.toList))))
theorem lnE_iff (g g' : Ln) : lnE g g' = true ↔ g = g' := by
  have key : ∀ s t : ByteArray, s.toList = t.toList ↔ s = t := fun s t => ⟨fun e => by rw [ByteArray.toList_eq, ByteArray.toList_eq] at e; exact ByteArray.ext (Array.toList_inj.1 e), fun e => by rw [e]⟩
  obtain ⟨a, b, c, d, e⟩ := g
  obtain ⟨a', b', c', d', e'⟩ := g'
  simp [lnE, key]
theorem lnUnder : Tryz.prog.underlying 121 = some (.struct (Tryz.prog.fieldsOf 121)) := by kernel_rfl
set_option maxRecDepth 100000 in
theorem run_neq_ln (g g' : Ln) (w : World) : (binOp .neq 121 (.agg #[.int .i64 g.no, .string g.item, .int .i64 g.qty, .int .i64 g.money, .string g.note]) (.agg #[.int .i64 g'.no, .string g'.item, .int .i64 g'.qty, .int .i64 g'.money, .string g'.note])).run Tryz.prog w = .ok (.bool (!lnE g g')) w := by
  have hF : Tryz.prog.fieldsOf 121 = (match Tryz.prog.underlying 121 with | some (.struct fs) => fs | _ => #[]) := rfl
  rw [Tryz.underlying121] at hF
  rw [run_neq_struct, run_equalIn_struct _ _ _ _ _ lnUnder (by kernel_rfl), hF]
  simp [go_sem, Op.eqFields]
  unfold lnE
  repeat' split
  all_goals simp_all
set_option maxHeartbeats 1000000 in
theorem sameLines_any (v v' : Value) (ss tt : List Ln) (w : World) (h : RowL w v ss) (h' : RowL w v' tt) :
    Calls Tryz.prog 75 #[v, v'] w fun e w' => (∃ B : Bool, e = .returned (.bool B) ∧ (B = true ↔ ss = tt)) ∧ Below w.heap.size w w' := by
  have hlen := h.len
  have hlen' := h'.len
  obtain ⟨a, cap, rfl⟩ := h.val
  obtain ⟨a', cap', rfl⟩ := h'.val
  have H : Hid (RowL w (.slice a ss.length cap) ss ∧ RowL w (.slice a' tt.length cap') tt) := ⟨h, h'⟩
  clear h h'
  by_cases hl : ss.length = tt.length
  · have HL : Hid (ss.length = tt.length) := hl
    have hl1 : ((ss.length : Int) != (tt.length : Int)) = false := by simp [hl]
    have hl2 : ((ss.length : Int) == (tt.length : Int)) = true := by simp [hl]
    clear hl
    go_enter Tryz.func75, Tryz.ntmps75
    go_wp2
    go_loopw [14] (fun i wr => ∃ k : Nat, i = .int .i64 (k : Int) ∧ k ≤ ss.length ∧ (∀ j, j < k → ss[j]? = tt[j]?) ∧ Below w.heap.size w wr) (fun i _ => ss.length - (intOf i).toNat)
    case atStart => exact ⟨0, rfl, by omega, fun j hj => by omega, Below.refl _ _⟩
    case round =>
      obtain ⟨k, rfl, hk, hA, hb⟩ := hrel
      have HA : Hid (∀ j, j < k → ss[j]? = tt[j]?) := hA
      clear hA
      by_cases hlt : k < ss.length
      · have hlt' : (k : Int) < (ss.length : Int) := by omega
        have hltt : (k : Int) < (tt.length : Int) := by have := HL.out; omega
        obtain ⟨b, o, c1, s, e, hs, ⟨q0, q1, q2, q3, q4⟩, hsz⟩ := (H.out.1.below hb).at hlt
        obtain ⟨b', o', c2, s', e', hs', ⟨p0, p1, p2, p3, p4⟩, hsz'⟩ := (H.out.2.below hb).at (show k < tt.length by omega)
        simp only [Value.slice.injEq, true_and] at e e'
        obtain ⟨rfl, rfl⟩ := e
        obtain ⟨rfl, rfl⟩ := e'
        have HB : Hid (Below w.heap.size w wr ∧ ss[k]? = some s ∧ tt[k]? = some s') := ⟨hb, hs, hs'⟩
        clear hs hs' hb
        by_cases hne : s = s'
        · subst hne
          have hrn : ∀ w, _ := run_neq_ln s s
          rw [(lnE_iff s s).2 rfl] at hrn
          simp only [Bool.not_true] at hrn
          go_wp2_with fail
          have bA : Below wr.heap.size wr (wr.alloc (.cells #[.int .i64 s.no, .string s.item, .int .i64 s.qty, .int .i64 s.money, .string s.note] 121)) := (Below.refl _ _).alloc (Nat.le_refl _) _
          generalize hWA : wr.alloc (.cells #[.int .i64 s.no, .string s.item, .int .i64 s.qty, .int .i64 s.money, .string s.note] 121) = WA at *
          have x0 : WA.cell? ⟨wr.heap.size, 0, none⟩ = some (.int .i64 s.no) := by rw [← hWA]; simp [go_sem]
          have y0 := (bA.cell (cell_lt p0)).trans p0
          have x1 : WA.cell? ⟨wr.heap.size, 1, none⟩ = some (.string s.item) := by rw [← hWA]; simp [go_sem]
          have y1 := (bA.cell (cell_lt p1)).trans p1
          have x2 : WA.cell? ⟨wr.heap.size, 2, none⟩ = some (.int .i64 s.qty) := by rw [← hWA]; simp [go_sem]
          have y2 := (bA.cell (cell_lt p2)).trans p2
          have x3 : WA.cell? ⟨wr.heap.size, 3, none⟩ = some (.int .i64 s.money) := by rw [← hWA]; simp [go_sem]
          have y3 := (bA.cell (cell_lt p3)).trans p3
          have x4 : WA.cell? ⟨wr.heap.size, 4, none⟩ = some (.string s.note) := by rw [← hWA]; simp [go_sem]
          have y4 := (bA.cell (cell_lt p4)).trans p4
          have HBA : Hid (Below w.heap.size w WA) := HB.out.1.trans (bA.mono HB.out.1.size)
          clear hWA bA p0 p1 p2 p3 p4 q0 q1 q2 q3 q4
          go_quiet (fail)
          go_wp2
          go_roundw
          case rel =>
            refine ⟨k + 1, by go_num, by omega, fun j hj => ?_, below_drewN HBA.out _⟩
            rcases Nat.lt_or_ge j k with g | g
            · exact HA.out j g
            · obtain rfl : j = k := by omega
              rw [HB.out.2.1, HB.out.2.2]
          case measure => simp [intOf]; omega
        · have hrn : ∀ w, _ := run_neq_ln s s'
          rw [show lnE s s' = false from Bool.eq_false_iff.2 fun e => hne ((lnE_iff s s').1 e)] at hrn
          simp only [Bool.not_false] at hrn
          have HN : Hid (s ≠ s') := hne
          clear hne
          go_wp2_with fail
          have bA : Below wr.heap.size wr (wr.alloc (.cells #[.int .i64 s.no, .string s.item, .int .i64 s.qty, .int .i64 s.money, .string s.note] 121)) := (Below.refl _ _).alloc (Nat.le_refl _) _
          generalize hWA : wr.alloc (.cells #[.int .i64 s.no, .string s.item, .int .i64 s.qty, .int .i64 s.money, .string s.note] 121) = WA at *
          have x0 : WA.cell? ⟨wr.heap.size, 0, none⟩ = some (.int .i64 s.no) := by rw [← hWA]; simp [go_sem]
          have y0 := (bA.cell (cell_lt p0)).trans p0
          have x1 : WA.cell? ⟨wr.heap.size, 1, none⟩ = some (.string s.item) := by rw [← hWA]; simp [go_sem]
          have y1 := (bA.cell (cell_lt p1)).trans p1
          have x2 : WA.cell? ⟨wr.heap.size, 2, none⟩ = some (.int .i64 s.qty) := by rw [← hWA]; simp [go_sem]
          have y2 := (bA.cell (cell_lt p2)).trans p2
          have x3 : WA.cell? ⟨wr.heap.size, 3, none⟩ = some (.int .i64 s.money) := by rw [← hWA]; simp [go_sem]
          have y3 := (bA.cell (cell_lt p3)).trans p3
          have x4 : WA.cell? ⟨wr.heap.size, 4, none⟩ = some (.string s.note) := by rw [← hWA]; simp [go_sem]
          have y4 := (bA.cell (cell_lt p4)).trans p4
          have HBA : Hid (Below w.heap.size w WA) := HB.out.1.trans (bA.mono HB.out.1.size)
          clear hWA bA p0 p1 p2 p3 p4 q0 q1 q2 q3 q4
          go_quiet (fail)
          go_wp2
          go_ret
          refine ⟨⟨false, rfl, by simp; intro e; rw [e, HB.out.2.2] at HB; exact HN.out (Option.some.inj HB.out.2.1).symm⟩, below_drewN HBA.out _⟩
      · obtain rfl : k = ss.length := by omega
        have HB : Hid (Below w.heap.size w wr) := hb
        clear hb
        go_wp2
        go_ret
        have hEq : ss = tt := List.ext_getElem? fun j => by
          rcases Nat.lt_or_ge j ss.length with g | g
          · exact HA.out j g
          · rw [List.getElem?_eq_none g, List.getElem?_eq_none (by have := HL.out; omega)]
        exact ⟨⟨true, rfl, by simp [hEq]⟩, HB.out⟩
  · have hl1 : ((ss.length : Int) != (tt.length : Int)) = true := by rw [bne_iff_ne]; omega
    have hl2 : ((ss.length : Int) == (tt.length : Int)) = false := by rw [beq_eq_false_iff_ne]; omega
    have hl3 : ¬ (ss.length : Int) = (tt.length : Int) := by omega
    have HL : Hid (¬ ss.length = tt.length) := hl
    clear hl
    go_enter Tryz.func75, Tryz.ntmps75
    go_wp2
    go_ret
    exact ⟨⟨false, rfl, by simp; intro e; exact HL.out (congrArg List.length e)⟩, Below.refl _ _⟩
set_option maxHeartbeats 4000000 in
theorem paperSame_impl (p q : Pap) (vn vl vn' vl' : Value) (w : World) (h : PapR w vn vl p) (h' : PapR w vn' vl' q) :
    Calls Tryz.prog 38 #[.agg #[.int .i64 p.kind, .string p.ref, .string p.other, .int .i64 p.day, vn, vl], .agg #[.int .i64 q.kind, .string q.ref, .string q.other, .int .i64 q.day, vn', vl']] w fun e w' => (∃ B : Bool, e = .returned (.bool B) ∧ (B = true ↔ p = q)) ∧ Below w.heap.size w w' := by
  obtain ⟨kind, ref, other, day, notes, lines⟩ := p
  obtain ⟨kind', ref', other', day', notes', lines'⟩ := q
  obtain ⟨a, cap, rfl⟩ := h.ns.val
  obtain ⟨c, cap1, rfl⟩ := h.ls.val
  obtain ⟨a', cap', rfl⟩ := h'.ns.val
  obtain ⟨c', cap1', rfl⟩ := h'.ls.val
  dsimp only at h h' ⊢
  have l1 : notes.length ≤ 9223372036854775807 := h.ns.len
  have l2 : lines.length ≤ 9223372036854775807 := h.ls.len
  have l3 : notes'.length ≤ 9223372036854775807 := h'.ns.len
  have l4 : lines'.length ≤ 9223372036854775807 := h'.ls.len
  have b0 : Below w.heap.size w ((w.alloc (.cells #[.int .i64 kind, .string ref, .string other, .int .i64 day, .slice a notes.length cap, .slice c lines.length cap1] 66)).alloc (.cells #[.int .i64 kind', .string ref', .string other', .int .i64 day', .slice a' notes'.length cap', .slice c' lines'.length cap1'] 66)) := ((Below.refl _ _).alloc (Nat.le_refl _) _).alloc (by simp) _
  have H : Hid (PapR ((w.alloc (.cells #[.int .i64 kind, .string ref, .string other, .int .i64 day, .slice a notes.length cap, .slice c lines.length cap1] 66)).alloc (.cells #[.int .i64 kind', .string ref', .string other', .int .i64 day', .slice a' notes'.length cap', .slice c' lines'.length cap1'] 66)) (.slice a notes.length cap) (.slice c lines.length cap1) ⟨kind, ref, other, day, notes, lines⟩ ∧ PapR ((w.alloc (.cells #[.int .i64 kind, .string ref, .string other, .int .i64 day, .slice a notes.length cap, .slice c lines.length cap1] 66)).alloc (.cells #[.int .i64 kind', .string ref', .string other', .int .i64 day', .slice a' notes'.length cap', .slice c' lines'.length cap1'] 66)) (.slice a' notes'.length cap') (.slice c' lines'.length cap1') ⟨kind', ref', other', day', notes', lines'⟩) := ⟨h.below b0, h'.below b0⟩
  clear h h'
  by_cases e0 : kind = kind'
  · subst e0
    by_cases e1 : ref = ref'
    · subst e1
      by_cases e2 : other = other'
      · subst e2
        by_cases e3 : day = day'
        · subst e3
          go_enter Tryz.func38, Tryz.ntmps38
          go_wp2_with fail
          refine (equal_any _ _ notes notes' _ H.out.1.ns H.out.2.ns).mono ?_
          rintro e w1 ⟨⟨B, rfl, hB⟩, hb⟩
          have c5 : w1.cell? ⟨w.heap.size, 5, none⟩ = some (.slice c lines.length cap1) := (hb.cell (p := ⟨w.heap.size, 5, none⟩) (by simp; omega)).trans (by simp [go_sem])
          have d5 : w1.cell? ⟨w.heap.size + 1, 5, none⟩ = some (.slice c' lines'.length cap1') := (hb.cell (p := ⟨w.heap.size + 1, 5, none⟩) (by simp)).trans (by simp [go_sem])
          have HB : Hid (Below w.heap.size w w1 ∧ RowL w1 (.slice c lines.length cap1) lines ∧ RowL w1 (.slice c' lines'.length cap1') lines' ∧ (B = true ↔ notes = notes')) := ⟨b0.trans (hb.mono (by simp; omega)), H.out.1.ls.below hb, H.out.2.ls.below hb, hB⟩
          clear hb b0 H hB
          cases B with
          | false =>
            go_wp2
            go_ret
            exact ⟨⟨false, rfl, by have := HB.out.2.2.2; simp at this; simp [this]⟩, HB.out.1⟩
          | true =>
            go_wp2_with fail
            refine (sameLines_any _ _ lines lines' _ HB.out.2.1 HB.out.2.2.1).mono ?_
            rintro e w2 ⟨⟨B2, rfl, hB2⟩, hb2⟩
            have HC : Hid (Below w.heap.size w w2 ∧ (B2 = true ↔ lines = lines')) := ⟨HB.out.1.trans (hb2.mono HB.out.1.size), hB2⟩
            clear hb2 hB2
            go_wp2
            go_ret
            exact ⟨⟨B2, rfl, by have := HB.out.2.2.2; simp at this; simp [this, HC.out.2]⟩, HC.out.1⟩
        · have n1 : (day != day') = true := by rw [bne_iff_ne]; exact e3
          have n2 : (day == day') = false := by rw [beq_eq_false_iff_ne]; exact e3
          go_enter Tryz.func38, Tryz.ntmps38
          go_wp2
          go_ret
          exact ⟨⟨false, rfl, by simp [e3]⟩, b0⟩
      · obtain ⟨n1, n2, n3⟩ := toList_ne e2
        go_enter Tryz.func38, Tryz.ntmps38
        go_wp2
        go_ret
        exact ⟨⟨false, rfl, by simp [e2]⟩, b0⟩
    · obtain ⟨n1, n2, n3⟩ := toList_ne e1
      go_enter Tryz.func38, Tryz.ntmps38
      go_wp2
      go_ret
      exact ⟨⟨false, rfl, by simp [e1]⟩, b0⟩
  · have n1 : (kind != kind') = true := by rw [bne_iff_ne]; exact e0
    have n2 : (kind == kind') = false := by rw [beq_eq_false_iff_ne]; exact e0
    go_enter Tryz.func38, Tryz.ntmps38
    go_wp2
    go_ret
    exact ⟨⟨false, rfl, by simp [e0]⟩, b0⟩
end Go.Proofs.YtkaolpnbddjdpaaGreatDoor
