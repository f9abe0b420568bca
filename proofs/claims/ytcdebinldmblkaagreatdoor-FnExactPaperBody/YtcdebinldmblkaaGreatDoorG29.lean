/- Texts of ours put together: PiT. -/
import Derived.Test.YtcdebinldmblkaaGreatDoorG28
namespace Go.Proofs.YtcdebinldmblkaaGreatDoor
open Go.ChangeShapes Go.WideShapes Go.ChangeAt Go.RowKit
/-- The same, in one form: what stands behind the fields that PaperOf tells. -/
def PoAlt (p : Pap) (B : Nat) (w' : World) (k : Int) (r o : ByteArray) (d : Int) (An : Option Addr) (Nn Cn : Nat) (Al : Option Addr) (Nl Cl : Nat) (_a c : Int) : Prop :=
  (c = 0 ∧ k = (rdP lnI p).kind ∧ r = (rdP lnI p).ref ∧ o = (rdP lnI p).other ∧ d = (rdP lnI p).day ∧ PapR w' (.slice An Nn Cn) (.slice Al Nl Cl) (rdP lnI p) ∧ OwnQ B w' (rdP lnI p) (.slice An Nn Cn) (.slice Al Nl Cl) ∧ (tcV p.kind (bodyW wordsI p)).2.2 = 0 ∧ PlcOk p.kind (p.lines.map (lnI p.kind))) ∨ (c ≠ 0 ∧ ¬ ((tcV p.kind (bodyW wordsI p)).2.2 = 0 ∧ PlcOk p.kind (p.lines.map (lnI p.kind))))
theorem paperOfJ_any (p : Pap) (v : Value) (w : World) (hk : 1 ≤ p.kind ∧ p.kind ≤ 7) (hI : PapI p) (hB : BdP 1048576 p) (hl20 : p.lines.length ≤ 20) (h : RowG w v (bodyW wordsI p)) (hc : CapL v (bodyW wordsI p).length) (hV : VarsAt w) :
    Calls Tryz.prog 39 #[.int .i64 p.kind, v] w fun e w' => (∃ k r o d An Nn Cn Al Nl Cl a c, e = .returned (.agg #[.int .i64 k, .string r, .string o, .int .i64 d, .slice An Nn Cn, .slice Al Nl Cl, .int .i64 a, .int .i64 c]) ∧ PoAlt p w.heap.size w' k r o d An Nn Cn Al Nl Cl a c) ∧ Below w.heap.size w w' := by
  refine (paperOfI_any p v w hk hI hB hl20 h hc hV).mono ?_
  rintro e w' ⟨hb, (⟨vn, vl, rfl, hP, hO, ht, hp⟩ | ⟨a, c, rfl, hc, hn⟩)⟩
  · obtain ⟨An, Nn, Cn, hvn⟩ := row_slice hO.ns
    obtain ⟨Al, Nl, Cl, hvl⟩ := row_slice5 hO.ls
    subst hvn hvl
    exact ⟨⟨_, _, _, _, An, Nn, Cn, Al, Nl, Cl, 0, 0, rfl, .inl ⟨rfl, rfl, rfl, rfl, rfl, hP, hO, ht, hp⟩⟩, hb⟩
  · exact ⟨⟨_, _, _, _, none, 0, 0, none, 0, 0, a, c, rfl, .inr ⟨hc, hn⟩⟩, hb⟩
theorem PoAlt.below {p : Pap} {B : Nat} {W W' : World} {k : Int} {r : ByteArray} {o : ByteArray} {d : Int} {An : Option Addr} {Nn : Nat} {Cn : Nat} {Al : Option Addr} {Nl : Nat} {Cl : Nat} {a : Int} {c : Int} (h : PoAlt p B W k r o d An Nn Cn Al Nl Cl a c) (hb : Below W.heap.size W W') : PoAlt p B W' k r o d An Nn Cn Al Nl Cl a c := by
  rcases h with ⟨h0, h1, h2, h3, h4, h5, h6, h7⟩ | h
  · exact .inl ⟨h0, h1, h2, h3, h4, h5.below hb, h6.below hb, h7⟩
  · exact .inr h
theorem PoAlt.set {p : Pap} {B b : Nat} {W : World} {k : Int} {r : ByteArray} {o : ByteArray} {d : Int} {An : Option Addr} {Nn : Nat} {Cn : Nat} {Al : Option Addr} {Nl : Nat} {Cl : Nat} {a : Int} {c : Int} (h : PoAlt p B W k r o d An Nn Cn Al Nl Cl a c) (hb : b < B) (i : Nat) (x : Value) : PoAlt p B (W.setCell ⟨b, i, none⟩ x) k r o d An Nn Cn Al Nl Cl a c := by
  rcases h with ⟨h0, h1, h2, h3, h4, h5, h6, h7⟩ | h
  · exact .inl ⟨h0, h1, h2, h3, h4, h5.ofQ (h6.set hb i x), h6.set hb i x, h7⟩
  · exact .inr h
theorem PoAlt.set8 {p : Pap} {B b : Nat} {W : World} {k : Int} {r : ByteArray} {o : ByteArray} {d : Int} {An : Option Addr} {Nn : Nat} {Cn : Nat} {Al : Option Addr} {Nl : Nat} {Cl : Nat} {a : Int} {c : Int} (h : PoAlt p B W k r o d An Nn Cn Al Nl Cl a c) (hb : b < B) {y0 y1 y2 y3 y4 y5 y6 y7 : Value} : PoAlt p B ((((((((W.setCell ⟨b, 0, none⟩ y0).setCell ⟨b, 1, none⟩ y1).setCell ⟨b, 2, none⟩ y2).setCell ⟨b, 3, none⟩ y3).setCell ⟨b, 4, none⟩ y4).setCell ⟨b, 5, none⟩ y5).setCell ⟨b, 6, none⟩ y6).setCell ⟨b, 7, none⟩ y7) k r o d An Nn Cn Al Nl Cl a c :=
  (((((((h.set hb _ _).set hb _ _).set hb _ _).set hb _ _).set hb _ _).set hb _ _).set hb _ _).set hb _ _
theorem unallocP {a b : World} {o : Obj} (h : Below (a.alloc o).heap.size (a.alloc o) b) : Below a.heap.size a b := ((Below.refl _ _).alloc (Nat.le_refl _) _).trans (h.mono (by simp))
theorem boxNewP {a b : World} {o : Obj} (h : Below (a.alloc o).drew.heap.size (a.alloc o).drew b) : b.heap[a.heap.size]? = some o := (h.block a.heap.size (by show a.heap.size < (a.alloc o).heap.size; simp)).trans (World.alloc_heap_new a o)
theorem boxNewQ {a b : World} {o : Obj} (h : Below (a.alloc o).heap.size (a.alloc o) b) : b.heap[a.heap.size]? = some o := (h.block a.heap.size (by simp)).trans (World.alloc_heap_new a o)
theorem setB8P {n P : Nat} {a W : World} {y0 y1 y2 y3 y4 y5 y6 y7 : Value} (h : Below n a W) (hP : n ≤ P) : Below n a ((((((((W.setCell ⟨P, 0, none⟩ y0).setCell ⟨P, 1, none⟩ y1).setCell ⟨P, 2, none⟩ y2).setCell ⟨P, 3, none⟩ y3).setCell ⟨P, 4, none⟩ y4).setCell ⟨P, 5, none⟩ y5).setCell ⟨P, 6, none⟩ y6).setCell ⟨P, 7, none⟩ y7) :=
  (((((((h.setCell hP _).setCell hP _).setCell hP _).setCell hP _).setCell hP _).setCell hP _).setCell hP _).setCell hP _
theorem set8P {W : World} {b t : Nat} {x0 x1 x2 x3 x4 x5 x6 x7 y0 y1 y2 y3 y4 y5 y6 y7 : Value} (h : W.heap[b]? = some (.cells #[x0, x1, x2, x3, x4, x5, x6, x7] t)) :
    ((((((((W.setCell ⟨b, 0, none⟩ y0).setCell ⟨b, 1, none⟩ y1).setCell ⟨b, 2, none⟩ y2).setCell ⟨b, 3, none⟩ y3).setCell ⟨b, 4, none⟩ y4).setCell ⟨b, 5, none⟩ y5).setCell ⟨b, 6, none⟩ y6).setCell ⟨b, 7, none⟩ y7).heap[b]? = some (.cells #[y0, y1, y2, y3, y4, y5, y6, y7] t) := by
  simp [World.setCell, Array.getElem?_modify, h]
/-- What lies in PaperRight's box behind PaperOf. -/
def PrX (p : Pap) (W0 wx : World) (P : Nat) : Prop := Below W0.heap.size W0 wx ∧ ∃ B k r o d An Nn Cn Al Nl Cl a c, wx.heap[P]? = some (.cells #[.int .i64 k, .string r, .string o, .int .i64 d, .slice An Nn Cn, .slice Al Nl Cl, .int .i64 a, .int .i64 c] 57) ∧ PoAlt p B wx k r o d An Nn Cn Al Nl Cl a c
theorem papB_no {p : Pap} (h : ¬ PapOk p) : papB p = false := by simp [papB, h]
theorem papB_yes {p : Pap} (h : PapOk p) : papB p = true := by simp [papB, h]
end Go.Proofs.YtcdebinldmblkaaGreatDoor
