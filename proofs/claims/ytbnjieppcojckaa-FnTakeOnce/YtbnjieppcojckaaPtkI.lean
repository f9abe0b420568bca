/- Contract of impl.PartnerTake. -/
import Derived.Test.YtbnjieppcojckaaTkQ
import Derived.Test.YtbnjieppcojckaaPutI
import Derived.Test.YtbnjieppcojckaaListI
import Derived.Test.YtbnjieppcojckaaShClone
import Derived.Deep.RegionHeld3
import Derived.Deep.Cut
import Derived.Deep.CutRange
namespace Go.Proofs.Ytbnjieppcojckaa
open Go.ChangeShapes Go.WideShapes Go.ChangeAt Go.RowKit
/-- The window's box and its map. -/
structure QW (w W : World) (p : Ptn) (A : Option Addr) (C U b n : Nat) (low : Int) (l : List Sn) : Prop where
  q : QR w W p A C
  wb : W.heap[U]? = some (.cells #[.int .i64 low, .map (some b)] 60)
  own : W.ownsMap Try.prog 2 rdSn b n (mapD l)
  ul : w.heap.size + 2 ≤ U
  bl : w.heap.size + 2 ≤ b
theorem QW.below {w W W' : World} {p : Ptn} {A : Option Addr} {C U b n : Nat} {low : Int} {l : List Sn} (h : QW w W p A C U b n low l) (hb : Below W.heap.size W W') : QW w W' p A C U b n low l := by
  refine ⟨h.q.below hb, (hb.block _ (Array.getElem?_eq_some_iff.1 h.wb).1).trans h.wb, ?_, h.ul, h.bl⟩
  obtain ⟨es, clock, q1, q2, q3, q4⟩ := h.own
  exact ⟨es, clock, (hb.block b (Array.getElem?_eq_some_iff.1 q1).1).trans q1, q2, q3, q4⟩
theorem QW.wcells {w W : World} {p : Ptn} {A : Option Addr} {C U b n : Nat} {low : Int} {l : List Sn} (h : QW w W p A C U b n low l) : W.cell? ⟨U, 0, none⟩ = some (.int .i64 low) ∧ W.cell? ⟨U, 1, none⟩ = some (.map (some b)) := by
  have h1 := h.wb
  refine ⟨?_, ?_⟩ <;> simp [World.cell?, h1]
theorem kp2 {W : World} {b o U : Nat} {v : Value} (h : W.cell? ⟨b, o, none⟩ = some v) (hne : b ≠ U) (x y : Value) : ((W.setCell ⟨U, 0, none⟩ x).setCell ⟨U, 1, none⟩ y).cell? ⟨b, o, none⟩ = some v := by
  rw [World.cell?_setCell_other _ _ _ _ (by simp), World.cell?_setCell_other _ _ _ _ (by simp)]
  exact h
theorem kp3 {W : World} {b o U : Nat} {v : Value} (h : W.cell? ⟨b, o, none⟩ = some v) (hne : b ≠ U) (x y z : Value) : (((W.setCell ⟨U, 0, none⟩ x).setCell ⟨U, 1, none⟩ y).setCell ⟨U, 2, none⟩ z).cell? ⟨b, o, none⟩ = some v := by
  rw [World.cell?_setCell_other _ _ _ _ (by simp), World.cell?_setCell_other _ _ _ _ (by simp), World.cell?_setCell_other _ _ _ _ (by simp)]
  exact h
theorem undrew {a b : World} (h : Below a.drew.heap.size a.drew b) : Below a.heap.size a b := (Below.refl _ _).drew.trans h
/-- The window's box, made behind the call or ahead of it. -/
theorem meet1 {w w1 w3 : World} {p : Ptn} {A : Option Addr} {C b : Nat} (hq : QR w w1 p A C) (hb : Below w1.heap.size w1 w3) (hl : w1.heap.size ≤ b) (ho : w3.ownsMap Try.prog 2 rdSn b 32 (mapD p.seen)) : QW w (w3.alloc (.cells #[.int .i64 p.low, .map (some b)] 60)) p A C w3.heap.size b 32 p.low p.seen := by
  have hlt := hq.lt
  have hs := hb.size
  exact ⟨(hq.below hb).below ((Below.refl _ _).alloc (Nat.le_refl _) _), World.alloc_heap_new _ _, ho.alloc _, by omega, by omega⟩
theorem meet2 {w w1 w3 : World} {p : Ptn} {A : Option Addr} {C b : Nat} (hq : QR w w1 p A C) (hb : Below (w1.heap.size + 1) (w1.alloc (.cells #[.int .i64 0, .map none] 60)) w3) (hl : w1.heap.size + 1 ≤ b) (ho : w3.ownsMap Try.prog 2 rdSn b 32 (mapD p.seen)) : QW w ((w3.setCell ⟨w1.heap.size, 0, none⟩ (.int .i64 p.low)).setCell ⟨w1.heap.size, 1, none⟩ (.map (some b))) p A C w1.heap.size b 32 p.low p.seen := by
  have hlt := hq.lt
  have hb' : Below w1.heap.size w1 w3 := ((Below.refl _ _).alloc (Nat.le_refl _) _).trans (hb.mono (by omega))
  have hk : w3.heap[w1.heap.size]? = some (.cells #[.int .i64 0, .map none] 60) := (hb.block _ (by omega)).trans (World.alloc_heap_new _ _)
  have hs := hb.size
  have hsz : (w1.alloc (.cells #[.int .i64 0, .map none] 60)).heap.size = w1.heap.size + 1 := by simp
  have q3 := hq.below hb'
  have hne : ∀ j, j ≠ w1.heap.size → ((w3.setCell ⟨w1.heap.size, 0, none⟩ (.int .i64 p.low)).setCell ⟨w1.heap.size, 1, none⟩ (.map (some b))).heap[j]? = w3.heap[j]? := fun j hj => by
    rw [Below.heap_setCell _ _ _ _ (show j ≠ w1.heap.size from hj), Below.heap_setCell _ _ _ _ (show j ≠ w1.heap.size from hj)]
  have hb4 : Below w1.heap.size w1 ((w3.setCell ⟨w1.heap.size, 0, none⟩ (.int .i64 p.low)).setCell ⟨w1.heap.size, 1, none⟩ (.map (some b))) := (hb'.setCell (Nat.le_refl _) _).setCell (Nat.le_refl _) _
  refine ⟨hq.below hb4, ?_, ?_, by omega, by omega⟩
  · simp [World.setCell, Array.getElem?_modify, hk]
  · obtain ⟨es, clock, q1, q2, q3, q4⟩ := ho
    exact ⟨es, clock, (hne b (by omega)).trans q1, q2, q3, q4⟩
/-- And the answer's box. -/
structure QA (w W : World) (p : Ptn) (A : Option Addr) (C U b n : Nat) (low : Int) (l : List Sn) (D : Nat) (s : Sn) : Prop where
  qw : QW w W p A C U b n low l
  db : W.heap[D]? = some (.cells #[.int .i64 s.number, .int .i64 s.answer, .int .i64 s.code] 34)
  dl : w.heap.size + 2 ≤ D
theorem QA.below {w W W' : World} {p : Ptn} {A : Option Addr} {C U b n D : Nat} {low : Int} {l : List Sn} {s : Sn} (h : QA w W p A C U b n low l D s) (hb : Below W.heap.size W W') : QA w W' p A C U b n low l D s :=
  ⟨h.qw.below hb, (hb.block _ (Array.getElem?_eq_some_iff.1 h.db).1).trans h.db, h.dl⟩
theorem QA.dcells {w W : World} {p : Ptn} {A : Option Addr} {C U b n D : Nat} {low : Int} {l : List Sn} {s : Sn} (h : QA w W p A C U b n low l D s) : (W.cell? ⟨D, 0, none⟩ = some (.int .i64 s.number) ∧ W.cell? ⟨D, 1, none⟩ = some (.int .i64 s.answer) ∧ W.cell? ⟨D, 2, none⟩ = some (.int .i64 s.code)) ∧ ∀ o, W.frozen? ⟨D, o, none⟩ = false := by
  have h1 := h.db
  refine ⟨⟨?_, ?_, ?_⟩, fun o => ?_⟩ <;> simp [World.cell?, World.frozen?, h1]
theorem QA.neU {w W : World} {p : Ptn} {A : Option Addr} {C U b n D : Nat} {low : Int} {l : List Sn} {s : Sn} (h : QA w W p A C U b n low l D s) : D ≠ U ∧ D ≠ b := by
  refine ⟨fun e => ?_, fun e => ?_⟩
  · have h1 := h.db
    rw [e, h.qw.wb] at h1
    simp at h1
  · have h1 := h.db
    obtain ⟨es, clock, q1, _⟩ := h.qw.own
    rw [e, q1] at h1
    cases h1
theorem meet3 {w w1 w3 : World} {p : Ptn} {A : Option Addr} {C U b n : Nat} {low : Int} {l : List Sn} {s : Sn} (hq : QW w w1 p A C U b n low l) (hb : Below w1.heap.size w1 w3) : QA w (w3.alloc (.cells #[.int .i64 s.number, .int .i64 s.answer, .int .i64 s.code] 34)) p A C U b n low l w3.heap.size s := by
  have hlt := hq.q.lt
  have hs := hb.size
  exact ⟨(hq.below hb).below ((Below.refl _ _).alloc (Nat.le_refl _) _), World.alloc_heap_new _ _, by omega⟩
theorem set3 {W : World} {D : Nat} {x y z : Value} {s : Sn} (h : W.heap[D]? = some (.cells #[x, y, z] 34)) : (((W.setCell ⟨D, 0, none⟩ (.int .i64 s.number)).setCell ⟨D, 1, none⟩ (.int .i64 s.answer)).setCell ⟨D, 2, none⟩ (.int .i64 s.code)).heap[D]? = some (.cells #[.int .i64 s.number, .int .i64 s.answer, .int .i64 s.code] 34) := by
  simp [World.setCell, Array.getElem?_modify, h]
theorem set3_ne {W : World} {D j : Nat} (hj : j ≠ D) (x y z : Value) : (((W.setCell ⟨D, 0, none⟩ x).setCell ⟨D, 1, none⟩ y).setCell ⟨D, 2, none⟩ z).heap[j]? = W.heap[j]? := by
  rw [Below.heap_setCell _ _ _ _ (show j ≠ D from hj), Below.heap_setCell _ _ _ _ (show j ≠ D from hj), Below.heap_setCell _ _ _ _ (show j ≠ D from hj)]
theorem meet4 {w w1 w3 : World} {p : Ptn} {A : Option Addr} {C U b n : Nat} {low : Int} {l : List Sn} {s : Sn} (hq : QW w w1 p A C U b n low l) (hb : Below (w1.heap.size + 1) (w1.alloc (.cells #[.int .i64 0, .int .i64 0, .int .i64 0] 34)) w3) : QA w (((w3.setCell ⟨w1.heap.size, 0, none⟩ (.int .i64 s.number)).setCell ⟨w1.heap.size, 1, none⟩ (.int .i64 s.answer)).setCell ⟨w1.heap.size, 2, none⟩ (.int .i64 s.code)) p A C U b n low l w1.heap.size s := by
  have hlt := hq.q.lt
  have hb' : Below w1.heap.size w1 w3 := ((Below.refl _ _).alloc (Nat.le_refl _) _).trans (hb.mono (by omega))
  have hk : w3.heap[w1.heap.size]? = some (.cells #[.int .i64 0, .int .i64 0, .int .i64 0] 34) := (hb.block _ (by omega)).trans (World.alloc_heap_new _ _)
  exact ⟨hq.below (((hb'.setCell (Nat.le_refl _) _).setCell (Nat.le_refl _) _).setCell (Nat.le_refl _) _), set3 hk, by omega⟩
/-- The answer's box written anew. -/
theorem QA.set {w W : World} {p : Ptn} {A : Option Addr} {C U b n D : Nat} {low : Int} {l : List Sn} {s : Sn} (h : QA w W p A C U b n low l D s) (hs : ∀ W', Below (w.heap.size + 2) W W' → RPt W' (.slice A p.seen.length C) p) (s' : Sn) : QA w (((W.setCell ⟨D, 0, none⟩ (.int .i64 s'.number)).setCell ⟨D, 1, none⟩ (.int .i64 s'.answer)).setCell ⟨D, 2, none⟩ (.int .i64 s'.code)) p A C U b n low l D s' := by
  have hd := h.dl
  obtain ⟨hU, hb⟩ := h.neU
  have hlt := h.qw.q.lt
  have hb0 : Below (w.heap.size + 2) W (((W.setCell ⟨D, 0, none⟩ (.int .i64 s'.number)).setCell ⟨D, 1, none⟩ (.int .i64 s'.answer)).setCell ⟨D, 2, none⟩ (.int .i64 s'.code)) := (((Below.refl _ _).setCell hd _).setCell hd _).setCell hd _
  refine ⟨⟨⟨h.qw.q.bel.trans (hb0.mono (by omega)), (hb0.block _ (by omega)).trans h.qw.q.pb, (hb0.block _ (by omega)).trans h.qw.q.rb, hs _ hb0⟩, (set3_ne (fun e => hU e.symm) _ _ _).trans h.qw.wb, ?_, h.qw.ul, h.qw.bl⟩, set3 h.db, hd⟩
  obtain ⟨es, clock, q1, q2, q3, q4⟩ := h.qw.own
  exact ⟨es, clock, (set3_ne (fun e => hb e.symm) _ _ _).trans q1, q2, q3, q4⟩
/-- Behind the putting. -/
theorem QA.put {w W W' : World} {p : Ptn} {A : Option Addr} {C U b n D : Nat} {low : Int} {l : List Sn} {s : Sn} (h : QA w W p A C U b n low l D s) (hs : ∀ W', Below (w.heap.size + 2) W W' → RPt W' (.slice A p.seen.length C) p) {n' : Nat} {low' : Int} {l' : List Sn} (hk : KeepT U b W W') (hw : W'.heap[U]? = some (.cells #[.int .i64 low', .map (some b)] 60)) (ho : W'.ownsMap Try.prog 2 rdSn b n' (mapD l')) : QA w W' p A C U b n' low' l' D s := by
  have hd := h.dl
  obtain ⟨hU, hb⟩ := h.neU
  have hlt := h.qw.q.lt
  have h1 := h.qw.ul
  have h2 := h.qw.bl
  have hD := (Array.getElem?_eq_some_iff.1 h.db).1
  refine ⟨⟨⟨h.qw.q.bel.trans (hk.below (by omega) (by omega) (by omega)), (hk.block _ (by omega) (by omega) (by omega)).trans h.qw.q.pb, (hk.block _ (by omega) (by omega) (by omega)).trans h.qw.q.rb, hs _ (hk.below (by omega) (by omega) (by omega))⟩, hw, ho, h1, h2⟩, (hk.block _ hD hU hb).trans h.db, hd⟩
theorem set4 {p : Ptn} {low2 next2 : Int} {v : Value} {W : World} {E : Nat} (h : W.heap[E]? = some (.cells #[.string ⟨#[]⟩, .int .i64 0, .int .i64 0, .slice none 0 0] 30)) : ((((W.setCell ⟨E, 0, none⟩ (.string p.name)).setCell ⟨E, 1, none⟩ (.int .i64 low2)).setCell ⟨E, 2, none⟩ (.int .i64 next2)).setCell ⟨E, 3, none⟩ v).heap[E]? = some (.cells #[.string p.name, .int .i64 low2, .int .i64 next2, v] 30) := by
  simp [World.setCell, Array.getElem?_modify, h]
theorem set4_ne {p : Ptn} {low2 next2 : Int} {v : Value} {W : World} {E j : Nat} (hj : j ≠ E) : ((((W.setCell ⟨E, 0, none⟩ (.string p.name)).setCell ⟨E, 1, none⟩ (.int .i64 low2)).setCell ⟨E, 2, none⟩ (.int .i64 next2)).setCell ⟨E, 3, none⟩ v).heap[j]? = W.heap[j]? := by
  rw [Below.heap_setCell _ _ _ _ (show j ≠ E from hj), Below.heap_setCell _ _ _ _ (show j ≠ E from hj), Below.heap_setCell _ _ _ _ (show j ≠ E from hj), Below.heap_setCell _ _ _ _ (show j ≠ E from hj)]
/-- The partner that is told, in its box, with its list. -/
structure QE (w W : World) (p : Ptn) (A : Option Addr) (C U b n : Nat) (low : Int) (l : List Sn) (D : Nat) (s : Sn) (low2 next2 : Int) (E : Nat) (v : Value) : Prop where
  qa : QA w W p A C U b n low l D s
  eb : W.heap[E]? = some (.cells #[.string p.name, .int .i64 low2, .int .i64 next2, v] 30)
  ls : ∃ b3, w.heap.size + 2 ≤ b3 ∧ LSn b3 W v l
theorem meet5 {w w5 w7 : World} {p : Ptn} {A : Option Addr} {C U b n D c3 : Nat} {low low2 next2 : Int} {l : List Sn} {s : Sn} {v : Value} (hq : QA w w5 p A C U b n low l D s) (hb : Below w5.heap.size w5 w7) (hc : w5.heap.size ≤ c3) (hl : LSn c3 w7 v l) : QE w (w7.alloc (.cells #[.string p.name, .int .i64 low2, .int .i64 next2, v] 30)) p A C U b n low l D s low2 next2 w7.heap.size v := by
  have hlt := hq.qw.q.lt
  have ha : Below w7.heap.size w7 (w7.alloc (.cells #[.string p.name, .int .i64 low2, .int .i64 next2, v] 30)) := (Below.refl _ _).alloc (Nat.le_refl _) _
  exact ⟨(hq.below hb).below ha, World.alloc_heap_new _ _, c3, by omega, hl.below ha⟩
theorem meet6 {w w5 w7 : World} {p : Ptn} {A : Option Addr} {C U b n D c3 E : Nat} {low low2 next2 : Int} {l : List Sn} {s : Sn} {v : Value} (hq : QA w w5 p A C U b n low l D s) (hb : Below w5.heap.size w5 w7) (hE : w5.heap.size ≤ E) (hc : E < c3) (hk : w7.heap[E]? = some (.cells #[.string ⟨#[]⟩, .int .i64 0, .int .i64 0, .slice none 0 0] 30)) (hl : LSn c3 w7 v l) : QE w ((((w7.setCell ⟨E, 0, none⟩ (.string p.name)).setCell ⟨E, 1, none⟩ (.int .i64 low2)).setCell ⟨E, 2, none⟩ (.int .i64 next2)).setCell ⟨E, 3, none⟩ v) p A C U b n low l D s low2 next2 E v := by
  have hlt := hq.qw.q.lt
  refine ⟨hq.below ((((hb.setCell hE _).setCell hE _).setCell hE _).setCell hE _), set4 hk, c3, by omega, hl.of_block fun _ => set4_ne (by omega)⟩
theorem kp4 {W : World} {b o E : Nat} {v : Value} (h : W.cell? ⟨b, o, none⟩ = some v) (hne : b ≠ E) (x y z t : Value) : ((((W.setCell ⟨E, 0, none⟩ x).setCell ⟨E, 1, none⟩ y).setCell ⟨E, 2, none⟩ z).setCell ⟨E, 3, none⟩ t).cell? ⟨b, o, none⟩ = some v := by
  rw [World.cell?_setCell_other _ _ _ _ (by simp), World.cell?_setCell_other _ _ _ _ (by simp), World.cell?_setCell_other _ _ _ _ (by simp), World.cell?_setCell_other _ _ _ _ (by simp)]
  exact h
theorem boxP {W : World} {E : Nat} (h : W.heap[E]? = some (.cells #[.string ⟨#[]⟩, .int .i64 0, .int .i64 0, .slice none 0 0] 30)) : W.cell? ⟨E, 0, none⟩ = some (.string ⟨#[]⟩) ∧ W.cell? ⟨E, 1, none⟩ = some (.int .i64 0) ∧ W.cell? ⟨E, 2, none⟩ = some (.int .i64 0) ∧ W.cell? ⟨E, 3, none⟩ = some (.slice none 0 0) ∧ ∀ o, W.frozen? ⟨E, o, none⟩ = false := by
  refine ⟨?_, ?_, ?_, ?_, fun o => ?_⟩ <;> simp [World.cell?, World.frozen?, h]
theorem QA.three {w W : World} {p : Ptn} {A : Option Addr} {C U b n D : Nat} {low : Int} {l : List Sn} {s : Sn} (h : QA w W p A C U b n low l D s) : W.cell? ⟨w.heap.size, 0, none⟩ = some (.string p.name) ∧ W.cell? ⟨U, 0, none⟩ = some (.int .i64 low) ∧ W.cell? ⟨U, 1, none⟩ = some (.map (some b)) := ⟨h.qw.q.pcells.1, h.qw.wcells.1, h.qw.wcells.2⟩
theorem meet7 {w w5 w6 w7 : World} {p : Ptn} {A : Option Addr} {C U b n D c3 : Nat} {low low2 next2 : Int} {l : List Sn} {s : Sn} {v : Value} (hq : QA w w5 p A C U b n low l D s) (hb6 : Below w5.drew.heap.size w5.drew w6) (hb7 : Below (w6.alloc (.cells #[.string ⟨#[]⟩, .int .i64 0, .int .i64 0, .slice none 0 0] 30)).heap.size (w6.alloc (.cells #[.string ⟨#[]⟩, .int .i64 0, .int .i64 0, .slice none 0 0] 30)) w7) (hc : (w6.alloc (.cells #[.string ⟨#[]⟩, .int .i64 0, .int .i64 0, .slice none 0 0] 30)).heap.size ≤ c3) (hk : w7.heap[w6.heap.size]? = some (.cells #[.string ⟨#[]⟩, .int .i64 0, .int .i64 0, .slice none 0 0] 30)) (hl : LSn c3 w7 v l) : QE w ((((w7.setCell ⟨w6.heap.size, 0, none⟩ (.string p.name)).setCell ⟨w6.heap.size, 1, none⟩ (.int .i64 low2)).setCell ⟨w6.heap.size, 2, none⟩ (.int .i64 next2)).setCell ⟨w6.heap.size, 3, none⟩ v) p A C U b n low l D s low2 next2 w6.heap.size v := by
  have h1 := undrew hb6
  have h2 : Below w6.heap.size w6 w7 := ((Below.refl _ _).alloc (Nat.le_refl _) _).trans (hb7.mono (by simp))
  exact meet6 hq (h1.trans (h2.mono h1.size)) h1.size (by simp only [World.size_alloc] at hc; omega) hk hl
theorem meet8 {w w5 w6 w7 : World} {p : Ptn} {A : Option Addr} {C U b n D c3 : Nat} {low low2 next2 : Int} {l : List Sn} {s : Sn} {v : Value} (hq : QA w w5 p A C U b n low l D s) (hb6 : Below (w5.alloc (.cells #[.string ⟨#[]⟩, .int .i64 0, .int .i64 0, .slice none 0 0] 30)).drew.heap.size (w5.alloc (.cells #[.string ⟨#[]⟩, .int .i64 0, .int .i64 0, .slice none 0 0] 30)).drew w6) (hb7 : Below w6.heap.size w6 w7) (hc : w6.heap.size ≤ c3) (hk : w7.heap[w5.heap.size]? = some (.cells #[.string ⟨#[]⟩, .int .i64 0, .int .i64 0, .slice none 0 0] 30)) (hl : LSn c3 w7 v l) : QE w ((((w7.setCell ⟨w5.heap.size, 0, none⟩ (.string p.name)).setCell ⟨w5.heap.size, 1, none⟩ (.int .i64 low2)).setCell ⟨w5.heap.size, 2, none⟩ (.int .i64 next2)).setCell ⟨w5.heap.size, 3, none⟩ v) p A C U b n low l D s low2 next2 w5.heap.size v := by
  have h0 := undrew hb6
  have h1 : Below w5.heap.size w5 w6 := ((Below.refl _ _).alloc (Nat.le_refl _) _).trans (h0.mono (by simp))
  have hs := h0.size
  simp only [World.size_alloc] at hs
  exact meet6 hq (h1.trans (hb7.mono h1.size)) (Nat.le_refl _) (by omega) hk hl
set_option maxHeartbeats 8000000 in
theorem take_impl (p : Ptn) (v : Value) (k c : Int) (w : World) (h : RPt w v p) : Calls Try.prog 10 #[.agg #[.string p.name, .int .i64 p.low, .int .i64 p.next, v], .int .i64 k, .int .i64 c] w fun e w' => ∃ u b, e = .returned ((takeT p k c).val u) ∧ w.heap.size ≤ b ∧ LSn b w' u (takeT p k c).p.seen ∧ Below w.heap.size w w' := by
  obtain ⟨A, C, hv⟩ := h.ls.val
  subst hv
  have q0 : QR w ((w.alloc (.cells #[.string p.name, .int .i64 p.low, .int .i64 p.next, .slice A p.seen.length C] 30)).alloc (.cells #[.string ⟨#[]⟩, .int .i64 0, .int .i64 0, .slice none 0 0, .int .i64 0, .int .i64 0, .int .i64 0, .int .i64 0, .int .i64 0] 36)) p A C := by
    have b1 : Below w.heap.size w (w.alloc (.cells #[.string p.name, .int .i64 p.low, .int .i64 p.next, .slice A p.seen.length C] 30)) := (Below.refl _ _).alloc (Nat.le_refl _) _
    have b2 : Below (w.heap.size + 1) (w.alloc (.cells #[.string p.name, .int .i64 p.low, .int .i64 p.next, .slice A p.seen.length C] 30)) ((w.alloc (.cells #[.string p.name, .int .i64 p.low, .int .i64 p.next, .slice A p.seen.length C] 30)).alloc (.cells #[.string ⟨#[]⟩, .int .i64 0, .int .i64 0, .slice none 0 0, .int .i64 0, .int .i64 0, .int .i64 0, .int .i64 0, .int .i64 0] 36)) := (Below.refl _ _).alloc (by simp) _
    refine ⟨b1.trans (b2.mono (by omega)), (b2.block _ (by omega)).trans (World.alloc_heap_new _ _), ?_, h.below (b1.trans (b2.mono (by omega)))⟩
    have := World.alloc_heap_new (w.alloc (.cells #[.string p.name, .int .i64 p.low, .int .i64 p.next, .slice A p.seen.length C] 30)) (.cells #[.string ⟨#[]⟩, .int .i64 0, .int .i64 0, .slice none 0 0, .int .i64 0, .int .i64 0, .int .i64 0, .int .i64 0, .int .i64 0] 36)
    simpa using this
  have HR0 : Hid (RPt w (.slice A p.seen.length C) p) := h
  clear h
  go_enter Try.func10, Try.ntmps10
  go_wp2_with fail
  refine (ptRight_impl p _ _ q0.row).mono ?_
  rintro e w1 ⟨rfl, hb1⟩
  have q1 := q0.below hb1
  clear hb1 q0
  have HQ : Hid (QR w w1 p A C) := q1
  obtain ⟨⟨r0, r1, r2, r3, r4, r5, r6, r7, r8⟩, rf⟩ := q1.rcells
  obtain ⟨p0, p1, p2, p3⟩ := q1.pcells
  clear q1
  have fin : (ptnB p && (ctlB k && codeB c)) = false → takeT p k c = ⟨zeroPt, 0, ⟨0, 0, 0⟩, 1⟩ := takeT_form
  have HF : Hid ((ptnB p && (ctlB k && codeB c)) = false → takeT p k c = ⟨zeroPt, 0, ⟨0, 0, 0⟩, 1⟩) := fin
  clear fin
  cases hr : ptnB p
  · go_wp2
    exact bodyPost_ret (v := (takeT p k c).val (.slice none 0 0)) (by rw [HF.out (by rw [hr]; rfl)]; simp [results, Try.results10, go_sem, Tk.val, zeroPt, r0, r1, r2, r3, r4, r5, r6, r7, r8]) rfl ⟨_, w.heap.size, rfl, Nat.le_refl _, by rw [HF.out (by rw [hr]; rfl)]; exact LSn.nil _ _, set9_below HQ.out.bel (by omega) _ _ _ _ _ _ _ _ _⟩
  go_wp2_with fail
  refine (isControl_any k _).mono ?_
  rintro e w2 ⟨rfl, hw2⟩
  replace hw2 := hw2.symm
  subst hw2
  cases hk : ctlB k
  · go_wp2
    exact bodyPost_ret (v := (takeT p k c).val (.slice none 0 0)) (by rw [HF.out (by rw [hr, hk]; rfl)]; simp [results, Try.results10, go_sem, Tk.val, zeroPt, r0, r1, r2, r3, r4, r5, r6, r7, r8]) rfl ⟨_, w.heap.size, rfl, Nat.le_refl _, by rw [HF.out (by rw [hr, hk]; rfl)]; exact LSn.nil _ _, set9_below HQ.out.bel (by omega) _ _ _ _ _ _ _ _ _⟩
  go_wp2_with fail
  refine (isCode_any c _).mono ?_
  rintro e w2 ⟨rfl, hw2⟩
  replace hw2 := hw2.symm
  subst hw2
  cases hc : codeB c
  · go_wp2
    exact bodyPost_ret (v := (takeT p k c).val (.slice none 0 0)) (by rw [HF.out (by rw [hr, hk, hc]; rfl)]; simp [results, Try.results10, go_sem, Tk.val, zeroPt, r0, r1, r2, r3, r4, r5, r6, r7, r8]) rfl ⟨_, w.heap.size, rfl, Nat.le_refl _, by rw [HF.out (by rw [hr, hk, hc]; rfl)]; exact LSn.nil _ _, set9_below HQ.out.bel (by omega) _ _ _ _ _ _ _ _ _⟩
  clear r0 r1 r2 r3 r4 r5 r6 r7 r8 rf
  have HT : Hid (ptnB p = true ∧ ctlB k = true ∧ codeB c = true) := ⟨hr, hk, hc⟩
  clear hr hk hc
  go_upto_region 3 with fail
  go_cut [7, 8] from 12 to 29 (fun u n wx => ∃ U b, u = .pointer (some ⟨U, 0, none⟩) ∧ n = .int .i64 p.next ∧ QW w wx p A C U b 32 p.low p.seen)
  case first =>
    have qa : QR w w1.drew p A C := HQ.out.below (Below.refl _ _).drew
    have qb : QR w (w1.alloc (.cells #[.int .i64 0, .map none] 60)).drew p A C := HQ.out.below ((Below.refl _ _).alloc (Nat.le_refl _) _).drew
    have qc : QR w (w1.drew.alloc (.cells #[.int .i64 0, .map none] 60)) p A C := HQ.out.below ((Below.refl _ _).drew.alloc (Nat.le_refl _) _)
    obtain ⟨_, g1, g2, g3, g4, g5⟩ := ptnB_parts HT.out.1
    have g6 : ∀ x ∈ p.seen, 1 ≤ x.number ∧ x.number ≤ 999999 := fun x hx => by have := g5 x hx; omega
    have HG : Hid (p.seen.length ≤ 32 ∧ Rise p.seen ∧ ∀ x ∈ p.seen, 1 ≤ x.number ∧ x.number ≤ 999999) := ⟨g3, g4, g6⟩
    have HQ3 : Hid (QR w w1.drew p A C ∧ QR w (w1.alloc (.cells #[.int .i64 0, .map none] 60)).drew p A C ∧ QR w (w1.drew.alloc (.cells #[.int .i64 0, .map none] 60)) p A C) := ⟨qa, qb, qc⟩
    have hlw : w.heap.size ≠ w1.heap.size := by have := HQ.out.lt; omega
    clear g1 g2 g3 g4 g5 g6 qa qb qc
    go_region_held3 (fun W => W.cell? ⟨w.heap.size, 0, none⟩ = some (.string p.name) ∧ W.cell? ⟨w.heap.size, 1, none⟩ = some (.int .i64 p.low) ∧ W.cell? ⟨w.heap.size, 2, none⟩ = some (.int .i64 p.next) ∧ W.cell? ⟨w.heap.size, 3, none⟩ = some (.slice A p.seen.length C)) (first | go_keep | exact ⟨kp2 z0 hlw _ _, kp2 z1 hlw _ _, kp2 z2 hlw _ _, kp2 z3 hlw _ _⟩) (first | (go_at_call 33; refine (windowOf_any p _ _ (by with_reducible first | exact HQ3.out.1.row | exact HQ3.out.2.1.row | exact HQ3.out.2.2.row) HG.out.1 HG.out.2.1 HG.out.2.2).mono ?_; rintro e w3 ⟨b, rfl, hbl, ho, hb3⟩; obtain ⟨z0, z1, z2, z3⟩ := (by with_reducible first | exact (HQ3.out.1.below hb3).pcells | exact (HQ3.out.2.1.below hb3).pcells | exact (HQ3.out.2.2.below hb3).pcells : w3.cell? ⟨w.heap.size, 0, none⟩ = some (.string p.name) ∧ w3.cell? ⟨w.heap.size, 1, none⟩ = some (.int .i64 p.low) ∧ w3.cell? ⟨w.heap.size, 2, none⟩ = some (.int .i64 p.next) ∧ w3.cell? ⟨w.heap.size, 3, none⟩ = some (.slice A p.seen.length C)); try (have hbx : w3.heap[w1.heap.size]? = some (.cells #[.int .i64 0, .map none] 60) := (hb3.block w1.heap.size (by simp)).trans (World.alloc_heap_new _ _); have k0 : w3.cell? ⟨w1.heap.size, 0, none⟩ = some (.int .i64 0) := (by simp [World.cell?, hbx]); have k1 : w3.cell? ⟨w1.heap.size, 1, none⟩ = some (.map none) := (by simp [World.cell?, hbx]); have kz : ∀ o, w3.frozen? ⟨w1.heap.size, o, none⟩ = false := (fun o => by simp [World.frozen?, hbx]))))
    all_goals (go_wp2_with fail; go_meet)
    all_goals first | (have _h := hbx; exact ⟨_, _, rfl, rfl, meet2 HQ.out (by simpa using undrew hb3) (by simpa using hbl) ho⟩) | exact ⟨_, _, rfl, rfl, meet1 HQ.out (undrew hb3) hbl ho⟩
  case rest =>
    obtain ⟨U, b, rfl, rfl, hqw⟩ := hcut
    rename World => w3
    obtain ⟨s0, hs0⟩ : ∃ s0, s0 = (p.seen.find? fun x => decide (x.number = k)).getD ⟨0, 0, 0⟩ := ⟨_, rfl⟩
    have hLook : ∀ (W : World), W.ownsMap Try.prog 2 rdSn b 32 (mapD p.seen) → (Instr.lookup 58 (.map (some b)) (.int .i64 k) false).run Try.prog W = .ok (.agg #[.int .i64 s0.number, .int .i64 s0.answer, .int .i64 s0.code]) W := by
      intro W hW
      have hk := ctlB_iff.1 HT.out.2.1
      cases hf : p.seen.find? (fun x => decide (x.number = k)) with
      | none =>
        have := look_none hW (zeroSeen _) (k := k) (by omega) hf false
        rw [hf] at hs0
        subst hs0
        simpa [sv] using this
      | some s =>
        obtain rfl : s.number = k := by simpa using List.find?_some hf
        have := look_some hW (zeroSeen _) (by omega) hf false
        rw [hf] at hs0
        subst hs0
        simpa [sv] using this
    have HS : Hid (s0 = (p.seen.find? fun x => decide (x.number = k)).getD ⟨0, 0, 0⟩ ∧ ∀ (W : World), W.ownsMap Try.prog 2 rdSn b 32 (mapD p.seen) → (Instr.lookup 58 (.map (some b)) (.int .i64 k) false).run Try.prog W = .ok (.agg #[.int .i64 s0.number, .int .i64 s0.answer, .int .i64 s0.code]) W) := ⟨hs0, hLook⟩
    have HW : Hid (QW w w3 p A C U b 32 p.low p.seen) := hqw
    obtain ⟨y0, y1⟩ := hqw.wcells
    clear hs0 hLook hqw p0 p1 p2 p3
    go_upto_region 4 with fail
    go_cut [9, 10] from 30 to 36 (fun kd an wx => ∃ D, kd = .int .i64 (kndZ p.low p.seen k) ∧ an = .pointer (some ⟨D, 0, none⟩) ∧ QA w wx p A C U b 32 p.low p.seen D s0)
    case first =>
      have qa : QW w w3.drew p A C U b 32 p.low p.seen := HW.out.below (Below.refl _ _).drew
      have qb : QW w (w3.alloc (.cells #[.int .i64 0, .int .i64 0, .int .i64 0] 34)).drew p A C U b 32 p.low p.seen := HW.out.below ((Below.refl _ _).alloc (Nat.le_refl _) _).drew
      have L1 := HS.out.2 _ qa.own
      have L2 := HS.out.2 _ qb.own
      have HQ4 : Hid (QW w w3.drew p A C U b 32 p.low p.seen ∧ QW w (w3.alloc (.cells #[.int .i64 0, .int .i64 0, .int .i64 0] 34)).drew p A C U b 32 p.low p.seen) := ⟨qa, qb⟩
      have hlw : U ≠ w3.heap.size := by have := (Array.getElem?_eq_some_iff.1 HW.out.wb).1; omega
      clear qa qb
      go_region_held3 (fun W => W.cell? ⟨U, 0, none⟩ = some (.int .i64 p.low) ∧ W.cell? ⟨U, 1, none⟩ = some (.map (some b))) (first | go_keep | exact ⟨kp3 z0 hlw _ _ _, kp3 z1 hlw _ _ _⟩) (first | (go_at_call 34; refine (kindOf_any p.low b p.seen k 32 _ (by with_reducible first | exact HQ4.out.1.own | exact HQ4.out.2.own) (ctlB_iff.1 HT.out.2.1)).mono ?_; rintro e w4 ⟨rfl, hb4⟩; have q4 : QW w w4 p A C U b 32 p.low p.seen := (by with_reducible first | exact HQ4.out.1.below hb4 | exact HQ4.out.2.below hb4); obtain ⟨z0, z1⟩ := q4.wcells; have L4 := HS.out.2 _ q4.own; have L5 := HS.out.2 _ (q4.below ((Below.refl _ _).alloc (Nat.le_refl _) (.cells #[.int .i64 0, .int .i64 0, .int .i64 0] 34))).own; clear q4; try (have hbx : w4.heap[w3.heap.size]? = some (.cells #[.int .i64 0, .int .i64 0, .int .i64 0] 34) := (hb4.block w3.heap.size (by simp)).trans (World.alloc_heap_new _ _); have k0 : w4.cell? ⟨w3.heap.size, 0, none⟩ = some (.int .i64 0) := (by simp [World.cell?, hbx]); have k1 : w4.cell? ⟨w3.heap.size, 1, none⟩ = some (.int .i64 0) := (by simp [World.cell?, hbx]); have k2 : w4.cell? ⟨w3.heap.size, 2, none⟩ = some (.int .i64 0) := (by simp [World.cell?, hbx]); have kz : ∀ o, w4.frozen? ⟨w3.heap.size, o, none⟩ = false := (fun o => by simp [World.frozen?, hbx]))))
      all_goals (go_wp2_with fail; go_meet)
      all_goals first | (have _h := hbx; exact ⟨_, rfl, rfl, meet4 HW.out (by simpa using undrew hb4)⟩) | exact ⟨_, rfl, rfl, meet3 HW.out (undrew hb4)⟩
    case rest =>
      rename World => w4
      obtain ⟨D, rfl, rfl, hqa⟩ := hcut
      obtain ⟨kd, hkd⟩ : ∃ kd, kd = kndZ p.low p.seen k := ⟨_, rfl⟩
      rw [← hkd]
      have HKD : Hid (kd = kndZ p.low p.seen k) := hkd
      have HA : Hid (QA w w4 p A C U b 32 p.low p.seen D s0) := hqa
      have hT : (ptnB p && (ctlB k && codeB c)) = true := by rw [HT.out.1, HT.out.2.1, HT.out.2.2]; rfl
      have HTT : Hid ((ptnB p && (ctlB k && codeB c)) = true) := hT
      obtain ⟨_, g1, g2, g3, g4, g5⟩ := ptnB_parts HT.out.1
      have HG : Hid (p.seen.length ≤ 32 ∧ Rise p.seen ∧ (∀ x ∈ p.seen, 1 ≤ x.number ∧ x.number ≤ 999999) ∧ ∀ x ∈ p.seen, p.low ≤ x.number) := ⟨g3, g4, fun x hx => by have := g5 x hx; omega, fun x hx => (g5 x hx).1⟩
      obtain ⟨hn1, hn2⟩ := g2
      have hkc := ctlB_iff.1 HT.out.2.1
      obtain ⟨hk1, hk2⟩ := hkc
      have hDw : w.heap.size + 2 ≤ D := hqa.dl
      clear hqa hkd y0 y1 hT g1 g3 g4 g5
      go_upto_if 38 with fail
      go_cut [8] from 37 to 49 (fun nx wx => ∃ (n2 : Nat) (low2 next2 : Int) (l2 : List Sn) (s2 : Sn), nx = .int .i64 next2 ∧ QA w wx p A C U b n2 low2 l2 D s2 ∧ takeT p k c = ⟨⟨p.name, low2, next2, l2⟩, kd, s2, 0⟩ ∧ Rise l2 ∧ l2.length ≤ 33 ∧ ∀ x ∈ l2, 1 ≤ x.number ∧ x.number ≤ 999999)
      case first =>
        by_cases h1 : kd = 1
        · subst h1
          by_cases h2 : p.next = 999999
          · have HE : Hid (takeT p k c = ⟨zeroPt, 0, ⟨0, 0, 0⟩, 13⟩) := takeT_full HTT.out HKD.out.symm h2
            obtain ⟨⟨r0, r1, r2, r3, r4, r5, r6, r7, r8⟩, rf⟩ := HA.out.qw.q.rcells
            rw [h2]
            clear h2
            go_wp2
            exact bodyPost_ret (v := (takeT p k c).val (.slice none 0 0)) (by rw [HE.out]; simp [results, Try.results10, go_sem, Tk.val, zeroPt, r0, r1, r2, r3, r4, r5, r6, r7, r8]) rfl ⟨_, w.heap.size, rfl, Nat.le_refl _, by rw [HE.out]; exact LSn.nil _ _, set9_below HA.out.qw.q.bel (by omega) _ _ _ _ _ _ _ _ _⟩
          · have HE : Hid (takeT p k c = ⟨newPt p k c, 1, ⟨k, p.next, c⟩, 0⟩) := takeT_new HTT.out HKD.out.symm h2
            obtain ⟨⟨d0, d1, d2⟩, df⟩ := HA.out.dcells
            have h2' : (p.next == 999999) = false := by simpa using h2
            have qs := HA.out.set (fun W' hb' => HR0.out.below (HA.out.qw.q.bel.trans (hb'.mono (by omega)))) ⟨k, p.next, c⟩
            have HS5 : Hid (QA w (((w4.setCell ⟨D, 0, none⟩ (.int .i64 k)).setCell ⟨D, 1, none⟩ (.int .i64 p.next)).setCell ⟨D, 2, none⟩ (.int .i64 c)) p A C U b 32 p.low p.seen D ⟨k, p.next, c⟩) := qs
            obtain ⟨⟨e0, e1, e2⟩, ef⟩ := qs.dcells
            dsimp only at e0 e1 e2
            clear qs ef
            go_wp2_with fail
            refine (put_any p.low ⟨k, p.next, c⟩ U b 32 p.seen _ HS5.out.qw.wb HS5.out.qw.own HG.out.2.2.2 (by omega) ⟨hk1, hk2⟩).mono ?_
            rintro e w6 ⟨rfl, hw6, ho6, hk6⟩
            have q6 := HS5.out.put (fun W' hb' => HR0.out.below (HS5.out.qw.q.bel.trans (hb'.mono (by omega)))) hk6 hw6 ho6
            have HN := newPt_facts (c := c) HT.out.1 ⟨hk1, hk2⟩ HKD.out.symm
            have H6 : Hid (∃ (n2 : Nat) (low2 : Int) (l2 : List Sn) (s2 : Sn), QA w w6 p A C U b n2 low2 l2 D s2 ∧ takeT p k c = ⟨⟨p.name, low2, p.next + 1, l2⟩, 1, s2, 0⟩ ∧ Rise l2 ∧ l2.length ≤ 33 ∧ ∀ x ∈ l2, 1 ≤ x.number ∧ x.number ≤ 999999) := by
              refine ⟨33, max p.low (k - 31), (newPt p k c).seen, ⟨k, p.next, c⟩, ?_, HE.out, HN.1, HN.2.1, HN.2.2.1⟩
              have e9 : (p.seen.filter fun x => decide (k - 31 ≤ x.number)).filter (fun x => decide (x.number ≠ k)) = p.seen.filter fun x => decide (k - 31 ≤ x.number) := by
                refine List.filter_eq_self.2 fun x hx => ?_
                simpa using HN.2.2.2 x (List.mem_filter.1 hx).1
              dsimp only at q6
              rw [e9] at q6
              exact q6
            clear q6 hw6 ho6 hk6 HN d0 d1 d2 df e0 e1 e2
            go_wp2_with fail
            go_meet
            obtain ⟨n2, low2, l2, s2, a1, a2, a3⟩ := H6.out
            exact ⟨n2, low2, p.next + 1, l2, s2, by go_num, a1, a2, a3⟩
        · have h1' : (kd == 1) = false := by simpa using h1
          have HE : Hid (takeT p k c = ⟨p, kd, s0, 0⟩) := by
            have := takeT_old (c := c) HTT.out (by rw [← HKD.out]; exact h1)
            rw [← HKD.out, ← HS.out.1] at this
            exact this
          go_wp2_with fail
          go_meet
          exact ⟨32, p.low, p.next, p.seen, s0, rfl, HA.out, HE.out, HG.out.2.1, by have := HG.out.1; omega, HG.out.2.2.1⟩
      case rest =>
        rename World => w5
        obtain ⟨n2, low2, next2, l2, s2, rfl, hqa, hT2, hR2, hl2, hb2⟩ := hcut
        have HA5 : Hid (QA w w5 p A C U b n2 low2 l2 D s2) := hqa
        have HL2 : Hid (Rise l2 ∧ l2.length ≤ 40 ∧ ∀ x ∈ l2, 1 ≤ x.number ∧ x.number ≤ 999999) := ⟨hR2, by omega, hb2⟩
        have HE2 : Hid (takeT p k c = ⟨⟨p.name, low2, next2, l2⟩, kd, s2, 0⟩) := hT2
        obtain ⟨x0, x1, x2⟩ := hqa.three
        have hnm : p.name.size ≤ 12 := (ptnB_parts HT.out.1).1
        have hU5 : U < w5.heap.size := (Array.getElem?_eq_some_iff.1 hqa.qw.wb).1
        have hw5 : w.heap.size < w5.heap.size := by have := hqa.qw.q.lt; omega
        clear hqa hR2 hb2 hT2
        go_upto_region 11 with fail
        go_cut [11] from 50 to 58 (fun e wx => ∃ (E : Nat) (v : Value), e = .pointer (some ⟨E, 0, none⟩) ∧ QE w wx p A C U b n2 low2 l2 D s2 low2 next2 E v)
        case first =>
          have qa : QA w w5.drew p A C U b n2 low2 l2 D s2 := HA5.out.below (Below.refl _ _).drew
          have qb : QA w (w5.alloc (.cells #[.string ⟨#[]⟩, .int .i64 0, .int .i64 0, .slice none 0 0] 30)).drew p A C U b n2 low2 l2 D s2 := HA5.out.below ((Below.refl _ _).alloc (Nat.le_refl _) _).drew
          have HQ5 : Hid (QA w w5.drew p A C U b n2 low2 l2 D s2 ∧ QA w (w5.alloc (.cells #[.string ⟨#[]⟩, .int .i64 0, .int .i64 0, .slice none 0 0] 30)).drew p A C U b n2 low2 l2 D s2) := ⟨qa, qb⟩
          clear qa qb
          go_region_held3 (fun W => W.cell? ⟨w.heap.size, 0, none⟩ = some (.string p.name) ∧ W.cell? ⟨U, 0, none⟩ = some (.int .i64 low2) ∧ W.cell? ⟨U, 1, none⟩ = some (.map (some b))) (first | go_keep | exact ⟨kp4 t0 (by omega) _ _ _ _, kp4 t1 (by omega) _ _ _ _, kp4 t2 (by omega) _ _ _ _⟩ | exact ⟨kp4 t0 (by have := hb6.size; simp at this; omega) _ _ _ _, kp4 t1 (by have := hb6.size; simp at this; omega) _ _ _ _, kp4 t2 (by have := hb6.size; simp at this; omega) _ _ _ _⟩) (first | (go_at_call 36; refine (clone_any p.name _ (by omega)).mono ?_; rintro e w6 ⟨rfl, hb6⟩; have q6 : QA w w6 p A C U b n2 low2 l2 D s2 := (by with_reducible first | exact HQ5.out.1.below hb6 | exact HQ5.out.2.below hb6); have H6 : Hid (QA w w6 p A C U b n2 low2 l2 D s2 ∧ QA w (w6.alloc (.cells #[.string ⟨#[]⟩, .int .i64 0, .int .i64 0, .slice none 0 0] 30)) p A C U b n2 low2 l2 D s2) := ⟨q6, q6.below ((Below.refl _ _).alloc (Nat.le_refl _) (.cells #[.string ⟨#[]⟩, .int .i64 0, .int .i64 0, .slice none 0 0] 30))⟩; obtain ⟨z0, z1, z2⟩ := q6.three; clear q6; try (have hbx : w6.heap[w5.heap.size]? = some (.cells #[.string ⟨#[]⟩, .int .i64 0, .int .i64 0, .slice none 0 0] 30) := (hb6.block w5.heap.size (by simp)).trans (World.alloc_heap_new _ _))) | (go_at_call 37; refine (list_any low2 b n2 l2 _ (by with_reducible first | exact H6.out.1.qw.own | exact H6.out.2.qw.own) HL2.out.2.1 HL2.out.1 HL2.out.2.2).mono ?_; rintro e w7 ⟨v7, rfl, ⟨c7, hc7, hl7⟩, hb7⟩; have q7 : QA w w7 p A C U b n2 low2 l2 D s2 := (by with_reducible first | exact H6.out.1.below hb7 | exact H6.out.2.below hb7); obtain ⟨t0, t1, t2⟩ := q7.three; obtain ⟨A7, C7, hv7⟩ := hl7.val; subst hv7; clear q7; try (first | (have hby : w7.heap[w6.heap.size]? = some (.cells #[.string ⟨#[]⟩, .int .i64 0, .int .i64 0, .slice none 0 0] 30) := (hb7.block w6.heap.size (by simp)).trans (World.alloc_heap_new _ _); obtain ⟨k0, k1, k2, k3, kz⟩ := boxP hby) | (have hbz : w7.heap[w5.heap.size]? = some (.cells #[.string ⟨#[]⟩, .int .i64 0, .int .i64 0, .slice none 0 0] 30) := (hb7.block w5.heap.size (by have := hb6.size; simp at this; omega)).trans hbx; obtain ⟨k0, k1, k2, k3, kz⟩ := boxP hbz))))
          all_goals (go_wp2_with fail; go_meet)
          all_goals first | (have _h := hbz; exact ⟨_, _, rfl, meet8 HA5.out hb6 hb7 hc7 hbz hl7⟩) | (have _h := hby; exact ⟨_, _, rfl, meet7 HA5.out hb6 hb7 hc7 hby hl7⟩) | exact ⟨_, _, rfl, meet5 HA5.out ((undrew hb6).trans (hb7.mono (undrew hb6).size)) (Nat.le_trans (undrew hb6).size hc7) hl7⟩
        case rest =>
          rename World => w8
          obtain ⟨E, v, rfl, hqe⟩ := hcut
          obtain ⟨b3, hb3, hl3⟩ := hqe.ls
          obtain ⟨A3, C3, hv3⟩ := hl3.val
          subst hv3
          obtain ⟨⟨r0, r1, r2, r3, r4, r5, r6, r7, r8⟩, rf⟩ := hqe.qa.qw.q.rcells
          obtain ⟨⟨d0, d1, d2⟩, df⟩ := hqe.qa.dcells
          have heb := hqe.eb
          have e0 : w8.cell? ⟨E, 0, none⟩ = some (.string p.name) := by simp [World.cell?, heb]
          have e1 : w8.cell? ⟨E, 1, none⟩ = some (.int .i64 low2) := by simp [World.cell?, heb]
          have e2 : w8.cell? ⟨E, 2, none⟩ = some (.int .i64 next2) := by simp [World.cell?, heb]
          have e3 : w8.cell? ⟨E, 3, none⟩ = some (.slice A3 l2.length C3) := by simp [World.cell?, heb]
          have H8 : Hid (Below w.heap.size w w8 ∧ LSn b3 w8 (.slice A3 l2.length C3) l2) := ⟨hqe.qa.qw.q.bel, hl3⟩
          clear hqe hl3 heb x0 x1 x2
          go_wp2
          refine bodyPost_ret (v := (takeT p k c).val (.slice A3 l2.length C3)) (by rw [HE2.out]; simp [results, Try.results10, go_sem, Tk.val, r0, r1, r2, r3, r4, r5, r6, r7, r8]) rfl ⟨_, b3, rfl, by omega, ?_, set9_below H8.out.1 (by omega) _ _ _ _ _ _ _ _ _⟩
          rw [HE2.out]
          exact set9_lsn H8.out.2 (by omega) _ _ _ _ _ _ _ _ _
end Go.Proofs.Ytbnjieppcojckaa
