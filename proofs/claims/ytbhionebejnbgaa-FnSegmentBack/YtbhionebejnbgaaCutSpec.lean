/- Contract of the model's l01Cut: of a text of at most 20000 bytes it hands back a list of its own with the pieces that cutZ tells; the number at which it cuts is not Rel. -/
import Derived.Test.YtbhionebejnbgaaCutImpl
import Derived.Test.YtbhionebejnbgaaRightSpec
namespace Go.Proofs.Ytbhionebejnbgaa
open Go.ChangeShapes Go.WideShapes Go.ChangeAt Go.RowKit
/-- A list of strings of the call's own, beside the syntax's block. -/
structure CL (sb : Nat) (o : Obj) (w W : World) (v : Value) (vals : List Value) : Prop where
  row : W.ownsRow w.heap.size 9 1 v vals.length vals
  fx : W.heap[sb]? = some o
  ob : ∃ c t, o = .cells c t ∧ t ≠ 9
  bel : Below w.heap.size w W
theorem CL.below {sb : Nat} {o : Obj} {w W W' : World} {v : Value} {vals : List Value} (h : CL sb o w W v vals) (hb : Below W.heap.size W W') : CL sb o w W' v vals := by
  have hg : W.grownBy W' none := ⟨hb.os, hb.tape, hb.output, hb.size, fun k hk _ => hb.block k hk⟩
  refine ⟨h.row.kept hg ?_, (hb.block sb (Array.getElem?_eq_some_iff.1 h.fx).1).trans h.fx, h.ob, h.bel.trans (hb.mono h.bel.size)⟩
  cases h1 : v.ownBlock
  · exact .inl rfl
  · exact .inr (by simp)
theorem CL.app {sb : Nat} {o : Obj} {w W w1 : World} {v v' : Value} {vals : List Value} {x : Value} {tmp : Obj} (h : CL sb o w W v vals) (hown' : w1.ownsRow w.heap.size 9 1 v' (vals.length + 1) (vals ++ [x])) (hgrow : (W.alloc tmp).grownBy w1 v.ownBlock) : CL sb o w w1 v' (vals ++ [x]) := by
  obtain ⟨c, t, e1, e2⟩ := h.ob
  have hlt := (Array.getElem?_eq_some_iff.1 h.fx).1
  refine ⟨by simpa using hown', ?_, h.ob, (h.bel.alloc h.bel.size tmp).grown hgrow (by have := h.bel.size; simp; omega) (row_base h.row)⟩
  rw [hgrow.block sb (by simp; omega) (row_not_obj h.row (by rw [h.fx, e1]) e2), Below.heap_alloc W tmp sb hlt]
  exact h.fx
theorem ext_snoc (s : ByteArray) (xs : List Int) (f k : Nat) (hf : f ≤ k) (hk : k < s.size) (h : strOfNums xs = s.extract f k) : strOfNums (xs ++ [((s[k]'hk).toNat : Int)]) = s.extract f (k + 1) := by
  apply ByteArray.ext
  apply Array.toList_inj.1
  have h1 : (strOfNums xs).data.toList = (s.extract f k).data.toList := by rw [h]
  rw [strOfNums_data, Lib.extract_data] at h1
  rw [strOfNums_data, Lib.extract_data, List.map_append, h1]
  have hl : k < s.data.toList.length := by simpa using hk
  rw [show k + 1 - f = (k - f) + 1 by omega, List.take_succ_eq_append_getElem (by simp; omega)]
  congr 1
  simp only [List.map_cons, List.map_nil, List.getElem_drop]
  congr 1
  have : s.data.toList[f + (k - f)] = s[k]'hk := by
    have e : f + (k - f) = k := by omega
    simp only [e]
    rfl
  rw [this]
  simp
theorem ext_nil (s : ByteArray) (k : Nat) : strOfNums [] = s.extract k k := by
  apply ByteArray.ext
  apply Array.toList_inj.1
  rw [strOfNums_data, Lib.extract_data]
  simp
/-- What stands when m bytes are gone through and the piece at hand begins at f. -/
def CutAtF (s : ByteArray) (d y : Int) (f m : Nat) : Prop := f ≤ m ∧ strOfNums (cutZ y (upto s d m)).2 = s.extract f m
theorem cutF_byte {s : ByteArray} {d y : Int} {f k : Nat} (hk : k < s.size) (h : CutAtF s d y f k) (hc : (!st s d k && (((s[k]'hk).toNat : Int) == y)) = false) : CutAtF s d y f (k + 1) ∧ (cutZ y (upto s d (k + 1))).1 = (cutZ y (upto s d k)).1 := by
  have e : cutZ y (upto s d (k + 1)) = ((cutZ y (upto s d k)).1, (cutZ y (upto s d k)).2 ++ [((s[k]'hk).toNat : Int)]) := by
    rw [upto_succ, cutZ_snoc, item_eq s d k hk]
    unfold cutS
    rw [if_neg (by rw [hc]; simp)]
  refine ⟨⟨by have := h.1; omega, ?_⟩, by rw [e]⟩
  rw [e]
  exact ext_snoc s _ f k h.1 hk h.2
theorem cutF_cut {s : ByteArray} {d y : Int} {f k : Nat} (hk : k < s.size) (h : CutAtF s d y f k) (hc : (!st s d k && (((s[k]'hk).toNat : Int) == y)) = true) : CutAtF s d y (k + 1) (k + 1) ∧ strs (cutZ y (upto s d (k + 1))).1 = strs (cutZ y (upto s d k)).1 ++ [.string (s.extract f k)] := by
  have e : cutZ y (upto s d (k + 1)) = ((cutZ y (upto s d k)).1 ++ [(cutZ y (upto s d k)).2], []) := by
    rw [upto_succ, cutZ_snoc, item_eq s d k hk]
    unfold cutS
    rw [if_pos hc]
  refine ⟨⟨Nat.le_refl _, ?_⟩, ?_⟩
  · rw [e]
    exact ext_nil s (k + 1)
  · rw [e, ← h.2]
    simp [strs]
theorem strs_len (ps : List (List Int)) : (strs ps).length = ps.length := by simp [strs]
set_option maxHeartbeats 4000000 in
theorem l01Cut_any (a b c d : Int) (s : ByteArray) (y : Int) (w : World) (hs : s.size ≤ 20000) (hyd : (y == d) = false) :
    Calls Try.prog 57 #[.agg #[.int .i64 a, .int .i64 b, .int .i64 c, .int .i64 d], .string s, .int .i64 y] w fun e w' => ∃ v, e = .returned v ∧ w'.ownsRow w.heap.size 9 1 v ((cutZ y (upto s d s.size)).1.length + 1) (strs ((cutZ y (upto s d s.size)).1 ++ [(cutZ y (upto s d s.size)).2])) ∧ Below w.heap.size w w' := by
  have hs' : (s.size : Int) ≤ 20000 := by omega
  obtain ⟨j0, hj, hy0, hy1, hy2⟩ := info_parts info9
  have HY : Hid ((y == d) = false) := hyd
  clear hyd
  go_enter Try.func57, Try.ntmps57
  go_wp2
  go_loopw [7, 8, 9] (fun v fr i wr => ∃ f m k : Nat, fr = .int .i64 f ∧ i = .int .i64 k ∧ m ≤ s.size ∧ m ≤ k ∧ k ≤ s.size + 1 ∧ (k ≤ s.size → m = k ∧ st s d k = false) ∧ (s.size < k → m = s.size) ∧ CutAtF s d y f m ∧ CL w.heap.size (.cells #[.int .i64 a, .int .i64 b, .int .i64 c, .int .i64 d] 24) w wr v (strs (cutZ y (upto s d m)).1)) (fun _ _ i _ => s.size + 2 - (intOf i).toNat)
  case atStart =>
    refine ⟨0, 0, 0, rfl, rfl, by omega, by omega, by omega, fun _ => ⟨rfl, rfl⟩, fun h => by omega, ⟨Nat.le_refl _, ext_nil s 0⟩, ?_, ?_, ⟨_, _, rfl, by decide⟩, ((Below.refl _ _).alloc (Nat.le_refl _) _).alloc (by simp) _⟩
    · have := World.ownsRow_made (base := w.heap.size) (e := 9) (size := 1) (w.alloc (.cells #[.int .i64 a, .int .i64 b, .int .i64 c, .int .i64 d] 24)) #[] 0 (by simp) (by unfold maxLen; omega) (by simp)
      simpa [cutZ, upto, strs] using this
    · exact (Below.heap_alloc _ _ _ (by simp)).trans (World.alloc_heap_new w _)
  case round =>
    obtain ⟨f, m, k, rfl, rfl, hm1, hm2, hk1, hkA, hkB, hF, hC⟩ := hrel
    have hlen := (cutZ_len y (upto s d m)).1
    rw [upto_length] at hlen
    have hlen2 := strs_len (cutZ y (upto s d m)).1
    have hmx : (strs (cutZ y (upto s d m)).1).length + 1 ≤ maxLen := by unfold maxLen; omega
    have hlen3 : (strs (cutZ y (upto s d m)).1).length ≤ m := by omega
    clear hlen2
    have hf := hF.1
    by_cases hlt : k < s.size
    · obtain ⟨rfl, hst⟩ := hkA (by omega)
      have hlt' : (m : Int) < (s.size : Int) := by omega
      have hx0 : 0 ≤ ((s[m]'hlt).toNat : Int) := by omega
      have hx1 : ((s[m]'hlt).toNat : Int) ≤ 255 := by have := (s[m]'hlt).toNat_lt; omega
      have f1 := hC.fx
      have c3 : wr.cell? ⟨w.heap.size, 3, none⟩ = some (.int .i64 d) := by simp [World.cell?, f1]
      have HG : Hid (st s d m = false ∧ CutAtF s d y f m) := ⟨hst, hF⟩
      clear f1 hkA hkB hst hF
      cases hd : (((s[m]'hlt).toNat : Int) == d)
      · cases hyy : (((s[m]'hlt).toNat : Int) == y)
        · go_wp2_with fail
          go_quiet (fail)
          have hCq := hC.below (below_drewN (Below.refl _ _) nq)
          go_wp2
          obtain ⟨g1, g2⟩ := cutF_byte hlt HG.out.2 (by rw [hyy]; simp)
          rw [← g2] at hCq
          go_roundw
          case rel => exact ⟨f, m + 1, m + 1, rfl, by go_num, by omega, by omega, by omega, fun _ => ⟨rfl, by rw [st_succ s d m hlt, hd]; simp⟩, fun h => by omega, g1, hCq⟩
          case measure => simp [intOf]; omega
        · have tok1 : True := trivial
          go_wp2_with fail
          go_quiet (fail)
          have hCq := hC.below (below_drewN (Below.refl _ _) nq)
          go_wp2_with (at_builtin; have _t := tok1; refine wpList_append_own _ rfl _ _ 57 rfl w.heap.size 9 j0 (.string ⟨#[]⟩) 1 16 Try.underlying57 hj hy0 hy1 hy2 rfl (by decide) _ _ _ rfl (hCq.row.alloc _) ⟨_, 0, none⟩ 1 1 [.string (s.extract f m)] rfl rfl (cell_one_at _ _ _ _ (by simp)) (by simp [Value.oneCell']) hmx (by omega) (by have h9 := hCq.bel.size; first | (simp; omega) | (simp at h9 ⊢; omega)) ?_; intro u' w4 hown' hgrow _; have hC4 := hCq.app hown' hgrow; clear tok1 hown' hgrow)
          obtain ⟨g1, g2⟩ := cutF_cut hlt HG.out.2 (by rw [hyy, HG.out.1]; rfl)
          rw [← g2] at hC4
          go_roundw
          case rel => exact ⟨m + 1, m + 1, m + 1, by go_num, by go_num, by omega, by omega, by omega, fun _ => ⟨rfl, by rw [st_succ s d m hlt, hd]; simp⟩, fun h => by omega, g1, hC4⟩
          case measure => simp [intOf]; omega
      · have hyn : (((s[m]'hlt).toNat : Int) == y) = false := by
          have e1 : ((s[m]'hlt).toNat : Int) = d := by simpa using hd
          rw [e1]
          have := HY.out
          cases h : (d == y)
          · rfl
          · have e2 : d = y := by simpa using h
            rw [e2] at this
            simp at this
        obtain ⟨g1, g2⟩ := cutF_byte hlt HG.out.2 (by rw [hyn]; simp)
        have G : Hid (CutAtF s d y f (m + 1) ∧ (cutZ y (upto s d (m + 1))).1 = (cutZ y (upto s d m)).1) := ⟨g1, g2⟩
        clear g1 g2
        go_wp2_with fail
        go_quiet (fail)
        have hCq := hC.below (below_drewN (Below.refl _ _) nq)
        go_wp2
        rw [← G.out.2] at hCq
        by_cases h2 : m + 1 < s.size
        · have hst1 : st s d (m + 1) = true := by rw [st_succ s d m hlt, HG.out.1, hd]; rfl
          obtain ⟨g3, g4⟩ := cutF_byte h2 G.out.1 (by rw [hst1]; simp)
          rw [← g4] at hCq
          go_roundw
          case rel => exact ⟨f, m + 1 + 1, m + 1 + 1, rfl, by go_num, by omega, by omega, by omega, fun _ => ⟨rfl, by rw [st_succ s d (m + 1) h2, hst1]; rfl⟩, fun h => by omega, g3, hCq⟩
          case measure => simp [intOf]; omega
        · go_roundw
          case rel => exact ⟨f, m + 1, m + 1 + 1, rfl, by go_num, by omega, by omega, by omega, fun h => by omega, fun h => by omega, G.out.1, hCq⟩
          case measure => simp [intOf]; omega
    · obtain rfl : m = s.size := by
        by_cases h : k ≤ s.size
        · have := (hkA h).1
          omega
        · exact hkB (by omega)
      have hk' : (s.size : Int) ≤ (k : Int) := by omega
      have tok1 : True := trivial
      have HF : Hid (strOfNums (cutZ y (upto s d s.size)).2 = s.extract f s.size) := hF.2
      clear hF hkA hkB
      go_wp2_with (at_builtin; have _t := tok1; refine wpList_append_own _ rfl _ _ 57 rfl w.heap.size 9 j0 (.string ⟨#[]⟩) 1 16 Try.underlying57 hj hy0 hy1 hy2 rfl (by decide) _ _ _ rfl (hC.row.alloc _) ⟨_, 0, none⟩ 1 1 [.string (s.extract f s.size)] rfl rfl (cell_one_at _ _ _ _ (by simp)) (by simp [Value.oneCell']) hmx (by omega) (by have h9 := hC.bel.size; first | (simp; omega) | (simp at h9 ⊢; omega)) ?_; intro u' w4 hown' hgrow _; have hC4 := hC.app hown' hgrow; clear tok1 hown' hgrow)
      go_ret
      refine ⟨u', rfl, ?_, hC4.bel⟩
      have := hC4.row
      rw [← HF.out] at this
      simpa [strs] using this
end Go.Proofs.Ytbhionebejnbgaa
