/- How many order lines stand where: pure. -/
import Derived.Test.YtppfobeencnbdaaThP
import Derived.Test.YtppfobeencnbdaaIsL
namespace Go.Proofs.Ytppfobeencnbdaa
open Go.ChangeShapes Go.WideShapes Go.ChangeAt Go.RowKit
structure Thr where
  nw : Int
  pt : Int
  wy : Int
  dn : Int
  gn : Int
def thr0 : Thr := ⟨0, 0, 0, 0, 0⟩
/-- One more that stands there. -/
def bmp (t : Thr) (z : Int) : Thr :=
  if z = 1 then { t with nw := t.nw + 1 } else if z = 2 then { t with pt := t.pt + 1 } else if z = 3 then { t with wy := t.wy + 1 } else if z = 4 then { t with dn := t.dn + 1 } else if z = 5 then { t with gn := t.gn + 1 } else t
noncomputable def stp (q : ByteArray) (t : Thr) (c : OLn) : Thr := if isB q c = true then bmp t (stT c) else t
noncomputable def cntT (q : ByteArray) (rs : List OLn) : Thr := rs.foldl (stp q) thr0
structure ThLe (t : Thr) (n : Int) : Prop where
  h1 : 0 ≤ t.nw ∧ t.nw ≤ n
  h2 : 0 ≤ t.pt ∧ t.pt ≤ n
  h3 : 0 ≤ t.wy ∧ t.wy ≤ n
  h4 : 0 ≤ t.dn ∧ t.dn ≤ n
  h5 : 0 ≤ t.gn ∧ t.gn ≤ n
theorem ThLe.bmp {t : Thr} {n z : Int} (h : ThLe t n) : ThLe (bmp t z) (n + 1) := by
  obtain ⟨h1, h2, h3, h4, h5⟩ := h
  unfold Go.Proofs.Ytppfobeencnbdaa.bmp
  split
  · exact ⟨by simp; omega, by simp; omega, by simp; omega, by simp; omega, by simp; omega⟩
  · split
    · exact ⟨by simp; omega, by simp; omega, by simp; omega, by simp; omega, by simp; omega⟩
    · split
      · exact ⟨by simp; omega, by simp; omega, by simp; omega, by simp; omega, by simp; omega⟩
      · split
        · exact ⟨by simp; omega, by simp; omega, by simp; omega, by simp; omega, by simp; omega⟩
        · split
          · exact ⟨by simp; omega, by simp; omega, by simp; omega, by simp; omega, by simp; omega⟩
          · exact ⟨by omega, by omega, by omega, by omega, by omega⟩
theorem ThLe.mono {t : Thr} {n m : Int} (h : ThLe t n) (hm : n ≤ m) : ThLe t m := by
  obtain ⟨h1, h2, h3, h4, h5⟩ := h
  exact ⟨by omega, by omega, by omega, by omega, by omega⟩
theorem ThLe.stp {q : ByteArray} {t : Thr} {n : Int} {c : OLn} (h : ThLe t n) : ThLe (stp q t c) (n + 1) := by
  unfold Go.Proofs.Ytppfobeencnbdaa.stp
  split
  · exact h.bmp
  · exact h.mono (by omega)
theorem foldl_le (q : ByteArray) : ∀ (rs : List OLn) (t : Thr) (n : Int), ThLe t n → ThLe (rs.foldl (stp q) t) (n + rs.length)
  | [], t, n, h => by simpa using h
  | c :: rs, t, n, h => by
    have := foldl_le q rs (stp q t c) (n + 1) h.stp
    simp only [List.foldl_cons, List.length_cons]
    have e : n + ((rs.length + 1 : Nat) : Int) = n + 1 + (rs.length : Int) := by omega
    rw [e]
    exact this
theorem cntT_le (q : ByteArray) (rs : List OLn) : ThLe (cntT q rs) rs.length := by
  have := foldl_le q rs thr0 0 ⟨by simp [thr0], by simp [thr0], by simp [thr0], by simp [thr0], by simp [thr0]⟩
  simpa [cntT] using this
theorem cntT_snoc (q : ByteArray) (rs : List OLn) (c : OLn) : cntT q (rs ++ [c]) = stp q (cntT q rs) c := by simp [cntT]
/-- What ThreeCount tells. -/
noncomputable def thcT (rs : List OLn) (q : ByteArray) : Thr := if q.size ≤ 20000 ∧ lnsB rs = true then cntT q rs else thr0
end Go.Proofs.Ytppfobeencnbdaa
