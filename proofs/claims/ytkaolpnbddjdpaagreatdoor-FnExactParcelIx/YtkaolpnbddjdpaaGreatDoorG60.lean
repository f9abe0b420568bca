/- Texts of ours put together: SepB (what the other groups do not tell). -/
import Derived.WalkKit
import Derived.Below
import Derived.WalkSmall
import Derived.RangeFuncRecord
import Derived.ProofKit
import Derived.OpenShut
import Derived.ShutString
import Derived.ChangeOld
import Derived.WalkLawsBesides
import Derived.WalkSpells
import Derived.Deep.Light
import Derived.Handy
import Derived.Deep.QuietTactic
import Derived.BigQuiet
import Derived.BigRegion
import Derived.Deep.OwnRows
import Derived.Laws.OwnMore
import Derived.Lib.ParseIntB
import Derived.Lib.ItoaNum
import Derived.Lib.Strings
import Derived.Shelf.LaysM
import Derived.Shelf.Strconv.ParseIntPublic10
import Derived.Shelf.Strings.Prefix
import Derived.Lib.AtoiErrMem
import Derived.Laws.BytesArg
import Derived.Lib.Bytealg
import Derived.Lib.SlTrimSet
import Derived.Stop.Joined
import Derived.MakeChecks
import Derived.LaidLaws
import Derived.Lib.SmallJoins
import Derived.Shelf.Slices.Clone
import Derived.Lib.AppendIntMem
import Derived.Deep.RegionHeld3
import Derived.Deep.RegionLaw
import Derived.Deep.AppendLies
import Derived.RangeFuncBox
import Derived.Shelf.Strconv.Clone
import Derived.Shelf.Strconv.Itoa4
import Derived.Lib.LaidTab
import Derived.Shelf.Strings.Count
import Derived.Deep.DeepMust
import Derived.Deep.Cut
import Derived.Deep.CutRange
import Derived.Laws.AppendOwn
import Derived.Maps.AppendAt
import Derived.Shelf.Strings.SlTrimAscii
import Derived.Shelf.Strings.Search2
import Derived.Laws.StructEq
import Derived.Deep.CutBlock
import Derived.Deep.SlicePairs
import Derived.Deep.Slices
import Derived.SliceStrings
import Derived.Stop.LaidErr
import Derived.OpenVars
import Derived.LaidMore
import Derived.SevenTiedAt
import Derived.Lay
import Derived.Test.YtkaolpnbddjdpaaGreatDoorG00
import Derived.Test.YtkaolpnbddjdpaaGreatDoorG01
import Derived.Test.YtkaolpnbddjdpaaGreatDoorG02
import Derived.Test.YtkaolpnbddjdpaaGreatDoorG03
import Derived.Test.YtkaolpnbddjdpaaGreatDoorG04
import Derived.Test.YtkaolpnbddjdpaaGreatDoorG05
import Derived.Test.YtkaolpnbddjdpaaGreatDoorG06
import Derived.Test.YtkaolpnbddjdpaaGreatDoorG07
import Derived.Test.YtkaolpnbddjdpaaGreatDoorG08
import Derived.Test.YtkaolpnbddjdpaaGreatDoorG09
import Derived.Test.YtkaolpnbddjdpaaGreatDoorG10
import Derived.Test.YtkaolpnbddjdpaaGreatDoorG11
import Derived.Test.YtkaolpnbddjdpaaGreatDoorG12
import Derived.Test.YtkaolpnbddjdpaaGreatDoorG13
import Derived.Test.YtkaolpnbddjdpaaGreatDoorG14
import Derived.Test.YtkaolpnbddjdpaaGreatDoorG15
import Derived.Test.YtkaolpnbddjdpaaGreatDoorG16
import Derived.Test.YtkaolpnbddjdpaaGreatDoorG17
import Derived.Test.YtkaolpnbddjdpaaGreatDoorG18
import Derived.Test.YtkaolpnbddjdpaaGreatDoorG19
import Derived.Test.YtkaolpnbddjdpaaGreatDoorG20
import Derived.Test.YtkaolpnbddjdpaaGreatDoorG21
import Derived.Test.YtkaolpnbddjdpaaGreatDoorG22
import Derived.Test.YtkaolpnbddjdpaaGreatDoorG23
import Derived.Test.YtkaolpnbddjdpaaGreatDoorG24
import Derived.Test.YtkaolpnbddjdpaaGreatDoorG25
import Derived.Test.YtkaolpnbddjdpaaGreatDoorG26
import Derived.Test.YtkaolpnbddjdpaaGreatDoorG27
import Derived.Test.YtkaolpnbddjdpaaGreatDoorG28
import Derived.Test.YtkaolpnbddjdpaaGreatDoorG29
import Derived.Test.YtkaolpnbddjdpaaGreatDoorG30
import Derived.Test.YtkaolpnbddjdpaaGreatDoorG31
import Derived.Test.YtkaolpnbddjdpaaGreatDoorG32
import Derived.Test.YtkaolpnbddjdpaaGreatDoorG51
import Derived.Test.YtkaolpnbddjdpaaGreatDoorG33
import Derived.Test.YtkaolpnbddjdpaaGreatDoorG34
import Derived.Test.YtkaolpnbddjdpaaGreatDoorG35
import Derived.Test.YtkaolpnbddjdpaaGreatDoorG36
import Derived.Test.YtkaolpnbddjdpaaGreatDoorG37
namespace Go.Proofs.YtkaolpnbddjdpaaGreatDoor
open Go.ChangeShapes Go.WideShapes Go.ChangeAt Go.RowKit
/-- The blocks of a list of segments. -/
def blkG (v : Value) (ps : List (Value × List Value)) (g : Nat) : Prop := v.ownBlock = some g ∨ ∃ p ∈ ps, ∃ x ∈ p.1 :: p.2, x.ownBlock = some g
theorem OwnL.blk {N g : Nat} {W : World} {v : Value} {ps : List (Value × List Value)} {gs : List Seg} (h : OwnL N W v ps gs) (hg : blkG v ps g) : N ≤ g ∧ g < W.heap.size ∧ ∃ c t, W.heap[g]? = some (.cells c t (0, 0)) ∧ (t = 90 ∨ t = 141 ∨ t = 9) := by
  rcases hg with hg | ⟨p, hp, x, hx, hg⟩
  · obtain ⟨h1, h2, c, h3⟩ := row_at h.row hg
    exact ⟨h1, h2, c, _, h3, .inl rfl⟩
  · obtain ⟨i, hi⟩ := List.getElem?_of_mem hp
    have hlt := (List.getElem?_eq_some_iff.1 hi).1
    rw [h.len] at hlt
    have hO := h.segs i p _ hi (List.getElem?_eq_getElem hlt)
    rcases List.mem_cons.1 hx with rfl | hx
    · obtain ⟨h1, h2, c, h3⟩ := row_at hO.row hg
      exact ⟨h1, h2, c, _, h3, .inr (.inl rfl)⟩
    · obtain ⟨j, hj⟩ := List.getElem?_of_mem hx
      have hl2 := (List.getElem?_eq_some_iff.1 hj).1
      rw [hO.len] at hl2
      obtain ⟨h1, h2, c, h3⟩ := row_at (hO.parts j x _ hj (List.getElem?_eq_getElem hl2)).1 hg
      exact ⟨h1, h2, c, _, h3, .inr (.inr rfl)⟩
/-- The blocks of a message's body. -/
def blM (x : MsgV) (g : Nat) : Prop := blkG x.2.1 x.2.2 g
/-- No two bodies have a block in common. -/
def SepM (ms : List MsgV) : Prop := ∀ (i j : Nat) (x y : MsgV), i ≠ j → ms[i]? = some x → ms[j]? = some y → ∀ g, blM x g → ¬ blM y g
def SepBs (bs : List BunV) : Prop := (∀ x ∈ bs, SepM x.2.2) ∧ ∀ (i j : Nat) (x y : BunV), i ≠ j → bs[i]? = some x → bs[j]? = some y → ∀ u ∈ x.2.2, ∀ v ∈ y.2.2, ∀ g, blM u g → ¬ blM v g
theorem SepBs.nil : SepBs [] := ⟨fun x hx => (by cases hx), fun i j x y _ h => by simp at h⟩
theorem get_snoc {X : Type} {l : List X} {z x : X} {i : Nat} (h : (l ++ [z])[i]? = some x) : (i < l.length ∧ l[i]? = some x) ∨ (i = l.length ∧ x = z) := by
  rcases Nat.lt_or_ge i l.length with hi | hi
  · rw [List.getElem?_append_left hi] at h
    exact .inl ⟨hi, h⟩
  · have h1 := (List.getElem?_eq_some_iff.1 h).1
    rw [List.length_append, List.length_singleton] at h1
    obtain rfl : i = l.length := by omega
    simp at h
    exact .inr ⟨rfl, h.symm⟩
theorem SepM.nil : SepM [] := fun i j x y _ h => by simp at h
/-- One bundle more, without messages. -/
theorem SepBs.addN {bs : List BunV} (h : SepBs bs) (b : Bun) (mv : Value) : SepBs (bs ++ [(b, mv, [])]) := by
  refine ⟨fun x hx => ?_, fun i j x y hij hx hy u hu v hv => ?_⟩
  · rcases List.mem_append.1 hx with hx | hx
    · exact h.1 x hx
    · rw [List.mem_singleton.1 hx]; exact SepM.nil
  · rcases get_snoc hx with ⟨_, hx⟩ | ⟨_, rfl⟩
    · rcases get_snoc hy with ⟨_, hy⟩ | ⟨_, rfl⟩
      · exact h.2 i j x y hij hx hy u hu v hv
      · cases hv
    · cases hu
/-- One message more in the last bundle, its body new. -/
theorem SepBs.addM {N : Nat} {W W' : World} {V : Value} {pre : List BunV} {b b' : Bun} {mv mv' : Value} {ms : List MsgV} {m : Msg} {gv : Value} {pp : List (Value × List Value)} {body : List Seg} (h : SepBs (pre ++ [(b, mv, ms)])) (hO : OwnBs N W V (pre ++ [(b, mv, ms)])) (hG : OwnL W.heap.size W' gv pp body) :
    SepBs (pre ++ [(b', mv', ms ++ [(m, gv, pp)])]) := by
  have hold : ∀ x ∈ pre ++ [((b, mv, ms) : BunV)], ∀ u ∈ x.2.2, ∀ g, blM u g → g < W.heap.size := fun x hx u hu g hg => (((hO.msgs x hx).1.body u hu).blk hg).2.1
  have hnew : ∀ g, blM (m, gv, pp) g → W.heap.size ≤ g := fun g hg => (hG.blk hg).1
  have hlm : ((b, mv, ms) : BunV) ∈ pre ++ [((b, mv, ms) : BunV)] := by simp
  have hll : (pre ++ [((b, mv, ms) : BunV)])[pre.length]? = some (b, mv, ms) := by simp
  have hpre : ∀ {i : Nat} {x : BunV}, i < pre.length → pre[i]? = some x → (pre ++ [((b, mv, ms) : BunV)])[i]? = some x := fun hi hx => by rw [List.getElem?_append_left hi]; exact hx
  have hlast : ∀ (i : Nat) (x : BunV), i < pre.length → pre[i]? = some x → ∀ u ∈ x.2.2, ∀ v ∈ ms ++ [(m, gv, pp)], ∀ g, blM u g → ¬ blM v g := fun i x hi hx u hu v hv g hg hg2 => by
    rcases List.mem_append.1 hv with hv | hv
    · exact h.2 i pre.length x (b, mv, ms) (by omega) (hpre hi hx) hll u hu v hv g hg hg2
    · rw [List.mem_singleton.1 hv] at hg2
      have h1 := hold x (List.mem_append_left _ (List.mem_of_getElem? hx)) u hu g hg
      have h2 := hnew g hg2
      omega
  refine ⟨fun x hx => ?_, fun i j x y hij hx hy u hu v hv g hg hg2 => ?_⟩
  · rcases List.mem_append.1 hx with hx | hx
    · exact h.1 x (List.mem_append_left _ hx)
    · rw [List.mem_singleton.1 hx]
      intro i j x y hij hx hy g hg hg2
      rcases get_snoc hx with ⟨_, hx⟩ | ⟨e1, rfl⟩
      · rcases get_snoc hy with ⟨_, hy⟩ | ⟨e2, rfl⟩
        · exact h.1 _ hlm i j x y hij hx hy g hg hg2
        · have h1 := hold _ hlm x (List.mem_of_getElem? hx) g hg
          have h2 := hnew g hg2
          omega
      · rcases get_snoc hy with ⟨_, hy⟩ | ⟨e2, rfl⟩
        · have h1 := hold _ hlm y (List.mem_of_getElem? hy) g hg2
          have h2 := hnew g hg
          omega
        · omega
  · rcases get_snoc hx with ⟨i1, hx⟩ | ⟨e1, rfl⟩
    · rcases get_snoc hy with ⟨j1, hy⟩ | ⟨e2, rfl⟩
      · exact h.2 i j x y hij (hpre i1 hx) (hpre j1 hy) u hu v hv g hg hg2
      · exact hlast i x i1 hx u hu v hv g hg hg2
    · rcases get_snoc hy with ⟨j1, hy⟩ | ⟨e2, rfl⟩
      · exact hlast j y j1 hy v hv u hu g hg2 hg
      · omega
end Go.Proofs.YtkaolpnbddjdpaaGreatDoor
