/- What PartnerRun tells, and what its loops keep. -/
import Derived.Test.YtbnjieppcojckaaTkQ
import Derived.Test.YtbnjieppcojckaaNewP
import Derived.Test.YtbnjieppcojckaaRowN
import Derived.Test.YtbnjieppcojckaaCopyS
namespace Go.Proofs.Ytbnjieppcojckaa
open Go.ChangeShapes Go.WideShapes Go.ChangeAt Go.RowKit
def stepP (p : Ptn) (k : Int) : Ptn := if (takeT p k 0).code = 0 then (takeT p k 0).p else p
def runK : Ptn → List Int → List Int
  | _, [] => []
  | p, k :: r => (takeT p k 0).kind :: runK (stepP p k) r
def okRun (name : ByteArray) (zs : List Int) : Bool := decide (zs.length ≤ 400) && (nameB name && zs.all ctlB)
def runL (name : ByteArray) (zs : List Int) : List Int := if okRun name zs then runK (newP name) zs else []
theorem runL_no {name : ByteArray} {zs : List Int} (h : okRun name zs = false) : runL name zs = [] := by
  unfold runL
  rw [h]
  rfl
theorem runL_yes {name : ByteArray} {zs : List Int} (h : okRun name zs = true) : runL name zs = runK (newP name) zs := by
  unfold runL
  rw [h]
  rfl
theorem okRun_at {name : ByteArray} {zs : List Int} {j : Nat} {z : Int} (h : zs[j]? = some z) (hz : ctlB z = false) : okRun name zs = false := by
  have : zs.all ctlB = false := by
    rw [← Bool.not_eq_true, List.all_eq_true]
    intro ha
    rw [ha z (List.mem_of_getElem? h)] at hz
    cases hz
  rw [okRun, this]
  simp
theorem runK_step {p : Ptn} {zs : List Int} {j : Nat} {z : Int} (h : zs[j]? = some z) : runK p (zs.drop j) = (takeT p z 0).kind :: runK (stepP p z) (zs.drop (j + 1)) := by
  rw [drop_at h]
  rfl
theorem runK_end {p : Ptn} {zs : List Int} : runK p (zs.drop zs.length) = [] := by
  rw [List.drop_length]
  rfl
theorem takeT_name12 {p : Ptn} {k c : Int} (h : p.name.size ≤ 12) : (takeT p k c).p.name.size ≤ 12 := by
  unfold takeT
  split
  · split
    · split
      · exact Nat.zero_le _
      · exact h
    · exact h
  · exact Nat.zero_le _
/-- A partner's box, its list, and the kinds so far. -/
structure PQ (w W : World) (Pb : Nat) (p : Ptn) (v lv : Value) (acc : List Int) : Prop where
  bel : Below w.heap.size w W
  pb : W.heap[Pb]? = some (.cells #[.string p.name, .int .i64 p.low, .int .i64 p.next, v] 30)
  ls : ∃ b, Pb < b ∧ LSn b W v p.seen
  own : W.ownsRow w.heap.size 2 1 lv acc.length (acc.map (Value.int .i64))
  nb : lv.ownBlock ≠ some Pb
  nm : p.name.size ≤ 12
  pl : w.heap.size ≤ Pb
theorem PQ.lt {w W : World} {Pb : Nat} {p : Ptn} {v lv : Value} {acc : List Int} (h : PQ w W Pb p v lv acc) : Pb < W.heap.size := (Array.getElem?_eq_some_iff.1 h.pb).1
theorem PQ.cells {w W : World} {Pb : Nat} {p : Ptn} {v lv : Value} {acc : List Int} (h : PQ w W Pb p v lv acc) : (W.cell? ⟨Pb, 0, none⟩ = some (.string p.name) ∧ W.cell? ⟨Pb, 1, none⟩ = some (.int .i64 p.low) ∧ W.cell? ⟨Pb, 2, none⟩ = some (.int .i64 p.next) ∧ W.cell? ⟨Pb, 3, none⟩ = some v) ∧ ∀ o, W.frozen? ⟨Pb, o, none⟩ = false := by
  have h1 := h.pb
  refine ⟨⟨?_, ?_, ?_, ?_⟩, fun o => ?_⟩ <;> simp [World.cell?, World.frozen?, h1]
theorem PQ.row {w W : World} {Pb : Nat} {p : Ptn} {v lv : Value} {acc : List Int} (h : PQ w W Pb p v lv acc) : RPt W v p := by
  obtain ⟨b, _, hl⟩ := h.ls
  exact ⟨hl.row, by have := h.nm; omega⟩
theorem below_grown {W W' : World} (hb : Below W.heap.size W W') : W.grownBy W' none := ⟨hb.os, hb.tape, hb.output, hb.size, fun k hk _ => hb.block k hk⟩
theorem PQ.below {w W W' : World} {Pb : Nat} {p : Ptn} {v lv : Value} {acc : List Int} (h : PQ w W Pb p v lv acc) (hb : Below W.heap.size W W') : PQ w W' Pb p v lv acc := by
  obtain ⟨b, h1, h2⟩ := h.ls
  refine ⟨h.bel.trans (hb.mono h.bel.size), (hb.block _ h.lt).trans h.pb, ⟨b, h1, h2.below hb⟩, h.own.kept (below_grown hb) ?_, h.nb, h.nm, h.pl⟩
  cases hv : lv.ownBlock with
  | none => exact .inl rfl
  | some k => exact .inr (by simp)
/-- The partner's box written anew. -/
theorem PQ.set {w W : World} {Pb b2 : Nat} {p p2 : Ptn} {v v2 lv : Value} {acc : List Int} (h : PQ w W Pb p v lv acc) (hb : Pb < b2) (hl : LSn b2 W v2 p2.seen) (hn : p2.name.size ≤ 12) : PQ w ((((W.setCell ⟨Pb, 0, none⟩ (.string p2.name)).setCell ⟨Pb, 1, none⟩ (.int .i64 p2.low)).setCell ⟨Pb, 2, none⟩ (.int .i64 p2.next)).setCell ⟨Pb, 3, none⟩ v2) Pb p2 v2 lv acc := by
  have hpb := h.pb
  have hne : ∀ j, j ≠ Pb → ((((W.setCell ⟨Pb, 0, none⟩ (.string p2.name)).setCell ⟨Pb, 1, none⟩ (.int .i64 p2.low)).setCell ⟨Pb, 2, none⟩ (.int .i64 p2.next)).setCell ⟨Pb, 3, none⟩ v2).heap[j]? = W.heap[j]? := fun j hj => by
    rw [Below.heap_setCell _ _ _ _ (show j ≠ Pb from hj), Below.heap_setCell _ _ _ _ (show j ≠ Pb from hj), Below.heap_setCell _ _ _ _ (show j ≠ Pb from hj), Below.heap_setCell _ _ _ _ (show j ≠ Pb from hj)]
  have hg : W.grownBy ((((W.setCell ⟨Pb, 0, none⟩ (.string p2.name)).setCell ⟨Pb, 1, none⟩ (.int .i64 p2.low)).setCell ⟨Pb, 2, none⟩ (.int .i64 p2.next)).setCell ⟨Pb, 3, none⟩ v2) (some Pb) := ⟨rfl, rfl, rfl, by simp [World.setCell], fun k _ hk => hne k (fun e => hk (by rw [e]))⟩
  refine ⟨(((h.bel.setCell h.pl _).setCell h.pl _).setCell h.pl _).setCell h.pl _, ?_, ⟨b2, hb, hl.of_block fun _ => hne b2 (by omega)⟩, h.own.kept hg (.inr h.nb), h.nb, hn, h.pl⟩
  simp [World.setCell, Array.getElem?_modify, hpb]
/-- A kind more. -/
theorem PQ.app {w W w6 : World} {Pb : Nat} {p : Ptn} {v lv lv' : Value} {acc : List Int} {x : Obj} {z : Int} (h : PQ w W Pb p v lv acc) (hg : (W.alloc x).grownBy w6 lv.ownBlock) (ho : w6.ownsRow w.heap.size 2 1 lv' (acc ++ [z]).length ((acc ++ [z]).map (Value.int .i64))) : PQ w w6 Pb p v lv' (acc ++ [z]) := by
  have ha := h.below ((Below.refl _ W).alloc (Nat.le_refl _) x)
  have hlt := ha.lt
  obtain ⟨b, h1, h2⟩ := ha.ls
  have hpb6 : w6.heap[Pb]? = some (.cells #[.string p.name, .int .i64 p.low, .int .i64 p.next, v] 30) := (hg.block Pb hlt (fun e => h.nb e.symm)).trans ha.pb
  refine ⟨ha.bel.trans ⟨hg.os, hg.tape, hg.output, hg.size, fun k hk => hg.block k (by have := ha.bel.size; omega) (fun e => by have := (ha.own.lt k e.symm).1; omega)⟩, hpb6, ⟨b, h1, h2.of_block fun hn => hg.block b (h2.lt hn) (fun e => ?_)⟩, ho, fun e => ?_, h.nm, h.pl⟩
  · obtain ⟨a', cap', e', hc⟩ := h2.shape
    obtain ⟨_, m, f, hR, _, _⟩ := hc hn
    obtain ⟨cc, hcc, _⟩ := hR
    rcases ha.own.2 with ⟨e2, _⟩ | ⟨g, cap, cur, e2, _, hh, _⟩
    · rw [e2] at e
      cases e
    · rw [e2] at e
      simp only [Value.ownBlock, Option.some.injEq] at e
      rw [e, hh] at hcc
      simp at hcc
  · rcases ho.2 with ⟨e2, _⟩ | ⟨g, cap, cur, e2, _, hh, _⟩
    · rw [e2] at e
      cases e
    · rw [e2] at e
      simp only [Value.ownBlock, Option.some.injEq] at e
      rw [e, hpb6] at hh
      simp at hh
end Go.Proofs.Ytbnjieppcojckaa
