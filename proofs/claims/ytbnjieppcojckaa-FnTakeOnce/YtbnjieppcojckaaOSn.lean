/- A list of Seen in a row of the call's own, with its capacity. -/
import Derived.Test.YtbnjieppcojckaaAppSn
namespace Go.Proofs.Ytbnjieppcojckaa
open Go.ChangeShapes Go.WideShapes Go.ChangeAt Go.RowKit
def OSn (n0 : Nat) (W : World) (v : Value) (rs : List Sn) : Prop := W.ownsRow n0 34 3 v rs.length (clSns rs)
theorem OSn.lt {n0 : Nat} {W : World} {v : Value} {rs : List Sn} (h : OSn n0 W v rs) (j : Nat) (hj : v.ownBlock = some j) : n0 ≤ j ∧ j < W.heap.size := World.ownsRow.lt h j hj
theorem OSn.kept {n0 : Nat} {W W' : World} {v : Value} {rs : List Sn} (h : OSn n0 W v rs) {O : Nat} (hg : W.grownBy W' (some O)) (hne : ∀ j, v.ownBlock = some j → j ≠ O) : OSn n0 W' v rs :=
  World.ownsRow.kept h hg (by
    cases hv : v.ownBlock with
    | none => exact .inl rfl
    | some j => exact .inr (fun e => hne j hv (Option.some.inj e)))
theorem OSn.set {n0 : Nat} {W : World} {v : Value} {rs : List Sn} (h : OSn n0 W v rs) {O : Nat} (hne : ∀ j, v.ownBlock = some j → j ≠ O) (i : Nat) (x : Value) : OSn n0 (W.setCell ⟨O, i, none⟩ x) v rs :=
  h.kept (O := O) ⟨rfl, rfl, rfl, by simp [World.setCell], fun k _ hk => Below.heap_setCell _ _ _ _ (fun e => hk (by rw [show k = O from e]))⟩ hne
theorem OSn.below {n0 : Nat} {W W' : World} {v : Value} {rs : List Sn} (h : OSn n0 W v rs) (hb : Below W.heap.size W W') : OSn n0 W' v rs :=
  h.kept (O := W.heap.size) ⟨hb.os, hb.tape, hb.output, hb.size, fun k hk _ => hb.block k hk⟩ (fun j hj => by have := (h.lt j hj).2; omega)
theorem OSn.nil (n0 : Nat) (W : World) : OSn n0 W (.slice none 0 0) [] := ⟨rfl, .inl ⟨rfl, rfl⟩⟩
theorem OSn.val {n0 : Nat} {W : World} {v : Value} {rs : List Sn} (h : OSn n0 W v rs) : ∃ A C, v = .slice A rs.length C := by
  rcases h.2 with ⟨rfl, h0⟩ | ⟨b, cap, cur, rfl, _⟩
  · exact ⟨none, 0, by rw [h0]⟩
  · exact ⟨_, _, rfl⟩
theorem OSn.lsn {n0 : Nat} {W : World} {v : Value} {rs : List Sn} (h : OSn n0 W v rs) (hl : rs.length ≤ 9223372036854775807) : ∃ b, n0 ≤ b ∧ LSn b W v rs := LSn.of_owns h hl
theorem set3_osn {n0 : Nat} {W : World} {O : Nat} {u : Value} {l : List Sn} (h : OSn n0 W u l) (hne : ∀ j, u.ownBlock = some j → j ≠ O) (x0 x1 x2 : Value) : OSn n0 (((W.setCell ⟨O, 5, none⟩ x0).setCell ⟨O, 6, none⟩ x1).setCell ⟨O, 7, none⟩ x2) u l :=
  ((h.set hne _ _).set hne _ _).set hne _ _
theorem set312_osn {n0 : Nat} {W : World} {O : Nat} {u : Value} {l : List Sn} (h : OSn n0 W u l) (hne : ∀ j, u.ownBlock = some j → j ≠ O) (x0 x1 x2 : Value) : OSn n0 (((W.setCell ⟨O, 3, none⟩ x0).setCell ⟨O, 1, none⟩ x1).setCell ⟨O, 2, none⟩ x2) u l :=
  ((h.set hne _ _).set hne _ _).set hne _ _
theorem set9_osn {n0 : Nat} {W : World} {O : Nat} {u : Value} {l : List Sn} (h : OSn n0 W u l) (hne : ∀ j, u.ownBlock = some j → j ≠ O) (x0 x1 x2 x3 x4 x5 x6 x7 x8 : Value) : OSn n0 (((((((((W.setCell ⟨O, 0, none⟩ x0).setCell ⟨O, 1, none⟩ x1).setCell ⟨O, 2, none⟩ x2).setCell ⟨O, 3, none⟩ x3).setCell ⟨O, 4, none⟩ x4).setCell ⟨O, 5, none⟩ x5).setCell ⟨O, 6, none⟩ x6).setCell ⟨O, 7, none⟩ x7).setCell ⟨O, 8, none⟩ x8) u l :=
  ((((((((h.set hne _ _).set hne _ _).set hne _ _).set hne _ _).set hne _ _).set hne _ _).set hne _ _).set hne _ _).set hne _ _
end Go.Proofs.Ytbnjieppcojckaa
