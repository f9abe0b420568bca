/- Texts of ours put together: GtO, NameB, CtlB, PnP. -/
import Derived.Test.YtmffigmidlgigaaGreatDoorG15
import Derived.Test.YtmffigmidlgigaaGreatDoorG29
import Derived.Test.YtmffigmidlgigaaGreatDoorG00
import Derived.Test.YtmffigmidlgigaaGreatDoorG02
namespace Go.Proofs.YtmffigmidlgigaaGreatDoor
open Go.ChangeShapes Go.WideShapes Go.ChangeAt Go.RowKit
theorem lgCs {B : Nat} {W : World} {v : Value} {rs : List Crs} (h : OwnCs B W v rs) (hG : BdCs 1048576 rs) : ∃ b, B ≤ b ∧ LCs b W v rs := by
  obtain ⟨b, f, h1, h2, h3, h4⟩ := h
  have hl := hG.1
  exact ⟨b, h1, ⟨_, _, h2, fun _ => ⟨rfl, _, f, h3, Nat.le_refl _, h4⟩⟩, by omega, fun i g hi => by have := hG.2 i g hi; omega⟩
theorem lgSt {B : Nat} {W : World} {v : Value} {rs : List Stk} (h : OwnSt B W v rs) (hG : BdSt 1048576 rs) : ∃ b, B ≤ b ∧ LSt b W v rs := by
  obtain ⟨b, f, h1, h2, h3, h4⟩ := h
  have hl := hG.1
  exact ⟨b, h1, ⟨_, _, h2, fun _ => ⟨rfl, _, f, h3, Nat.le_refl _, h4⟩⟩, by omega, fun i g hi => by have := hG.2 i g hi; omega⟩
theorem lgOl {B : Nat} {W : World} {v : Value} {rs : List OLn} (h : OwnOl B W v rs) (hG : BdOl 1048576 rs) : ∃ b, B ≤ b ∧ LOl b W v rs := by
  obtain ⟨b, f, h1, h2, h3, h4⟩ := h
  have hl := hG.1
  exact ⟨b, h1, ⟨_, _, h2, fun _ => ⟨rfl, _, f, h3, Nat.le_refl _, h4⟩⟩, by omega, fun i g hi => by have := hG.2 i g hi; omega⟩
theorem lgDf {B : Nat} {W : World} {v : Value} {rs : List Dff} (h : OwnDf B W v rs) (hG : BdDf 1048576 rs) : ∃ b, B ≤ b ∧ LDf b W v rs := by
  obtain ⟨b, f, h1, h2, h3, h4⟩ := h
  have hl := hG.1
  exact ⟨b, h1, ⟨_, _, h2, fun _ => ⟨rfl, _, f, h3, Nat.le_refl _, h4⟩⟩, by omega, fun i g hi => by have := hG.2 i g hi; omega⟩
theorem lgOu {B : Nat} {W : World} {v : Value} {rs : List OutR} (h : OwnOu B W v rs) (hG : BdOu 1048576 rs) : ∃ b, B ≤ b ∧ LOu b W v rs := by
  obtain ⟨b, f, h1, h2, h3, h4⟩ := h
  have hl := hG.1
  exact ⟨b, h1, ⟨_, _, h2, fun _ => ⟨rfl, _, f, h3, Nat.le_refl _, h4⟩⟩, by omega, fun i g hi => by have := hG.2 i g hi; omega⟩
theorem lpt_of_own {B : Nat} {W : World} {v : Value} {ps : List Ptn} (h : OwnsPt B W v ps) (hG : BdsPt 1048576 ps) : ∃ b f β, LPt W v ps b f β ∧ ∀ k, blkP ps b β k → B ≤ k := by
  obtain ⟨b, f, h1, h2, h3, h4, h5⟩ := h
  have hl := hG.1
  have hsn : ∀ (i : Nat) (p : Ptn), ps[i]? = some p → LSn (blkS (f (i * 4 + 3))) W (f (i * 4 + 3)) p.seen ∧ b + 1 ≤ blkS (f (i * 4 + 3)) := fun i p hi => by
    obtain ⟨_, _, _, b', g, k1, k2, k3, k4⟩ := h4 i p hi
    have hb := (hG.2 i p hi).2
    rw [k2]
    have hb' : p.seen.length ≤ 1048576 := hb
    exact ⟨⟨⟨_, _, rfl, fun _ => ⟨rfl, _, g, k3, Nat.le_refl _, k4⟩⟩, by omega⟩, k1⟩
  refine ⟨b, fun i => f (i * 4 + 3), fun i => blkS (f (i * 4 + 3)), ⟨⟨_, _, h2, fun _ => ⟨rfl, _, f, h3, Nat.le_refl _, fun i p hi => ?_⟩⟩, fun i p hi => (hsn i p hi).1, fun i j p q hij hi hj _ _ => ?_, by omega, fun i p hi => by have := (hG.2 i p hi).1; omega⟩, fun k hk => ?_⟩
  · obtain ⟨e0, e1, e2, _⟩ := h4 i p hi
    exact ⟨e0, e1, e2, rfl⟩
  · have li := (List.getElem?_eq_some_iff.1 hi).1
    have lj := (List.getElem?_eq_some_iff.1 hj).1
    rcases Nat.lt_or_gt_of_ne hij with g | g
    · have := h5 i j g lj
      omega
    · have := h5 j i g li
      omega
  · rcases hk with ⟨rfl, _⟩ | ⟨i, p, hi, _, rfl⟩
    · exact h1
    · have := (hsn i p hi).2
      show B ≤ blkS (f (i * 4 + 3))
      omega
theorem lgt_of_own {B : Nat} {W : World} {up uc us ul ud uo : Value} {g : Gat} (hn : g.name.size ≤ 9223372036854775807) (hP : BdGt 1048576 g) (h0 : OwnsPt B W up g.ptns) (h1 : OwnCs B W uc g.crss) (h2 : OwnSt B W us g.book.stocks) (h3 : OwnOl B W ul g.book.lines) (h4 : OwnDf B W ud g.dffs) (h5 : OwnOu B W uo g.outs) :
    ∃ b f β bc bs bl bd bo, LGt W up uc us ul ud uo g b f β bc bs bl bd bo ∧ ∀ k, blkG g b β bc bs bl bd bo k → B ≤ k := by
  obtain ⟨b, f, β, k0, l0⟩ := lpt_of_own h0 hP.2.1
  obtain ⟨bc, l1, k1⟩ := lgCs h1 hP.2.2.1
  obtain ⟨bs, l2, k2⟩ := lgSt h2 hP.2.2.2.1.1
  obtain ⟨bl, l3, k3⟩ := lgOl h3 hP.2.2.2.1.2
  obtain ⟨bd, l4, k4⟩ := lgDf h4 hP.2.2.2.2.1
  obtain ⟨bo, l5, k5⟩ := lgOu h5 hP.2.2.2.2.2
  refine ⟨b, f, β, bc, bs, bl, bd, bo, ⟨hn, k0, k1, k2, k3, k4, k5⟩, fun k hk => ?_⟩
  rcases hk with hk | ⟨rfl, _⟩ | ⟨rfl, _⟩ | ⟨rfl, _⟩ | ⟨rfl, _⟩ | ⟨rfl, _⟩
  · exact l0 k hk
  all_goals assumption
theorem cntP_eq : ∀ ps : List Ptn, cntP ps = ps.length * 3 + snP ps * 3
  | [] => rfl
  | p :: r => by
    simp only [cntP, snP, List.length_cons]
    rw [cntP_eq r]
    omega
theorem cntG_le {g : Gat} (hP : BdGt 1048576 g) (hs : snP g.ptns ≤ 1048576) : 1 + cntG g < 100000000000 := by
  have h0 := hP.2.1.1
  have h1 := hP.2.2.1.1
  have h2 := hP.2.2.2.1.1.1
  have h3 := hP.2.2.2.1.2.1
  have h4 := hP.2.2.2.2.1.1
  have h5 := hP.2.2.2.2.2.1
  unfold cntG
  rw [cntP_eq]
  omega
end Go.Proofs.YtmffigmidlgigaaGreatDoor
namespace Go.Proofs.YtmffigmidlgigaaGreatDoor
open Go.ChangeShapes Go.WideShapes Go.ChangeAt Go.RowKit
def nmOk (c : UInt8) : Bool := decide (c.toNat = 45 ∨ (48 ≤ c.toNat ∧ c.toNat ≤ 57) ∨ (65 ≤ c.toNat ∧ c.toNat ≤ 90))
def nameB (t : ByteArray) : Bool := decide (1 ≤ t.size ∧ t.size ≤ 12) && (t.data.toList.head?.any fun c => decide (65 ≤ c.toNat ∧ c.toNat ≤ 90)) && t.data.toList.all nmOk
theorem nameB_size {t : ByteArray} (h : ¬ (1 ≤ t.size ∧ t.size ≤ 12)) : nameB t = false := by simp [nameB, h]
theorem nameB_head {t : ByteArray} (h0 : 0 < t.size) (h : ¬ (65 ≤ (t[0]'h0).toNat ∧ (t[0]'h0).toNat ≤ 90)) : nameB t = false := by
  have hh : t.data.toList.head? = some (t[0]'h0) := by rw [List.head?_eq_getElem?, List.getElem?_eq_getElem (by simpa using h0)]; rfl
  unfold nameB
  rw [hh]
  simp only [Option.any_some, h, decide_false, Bool.and_false, Bool.false_and]
theorem nameB_at {t : ByteArray} (k : Nat) (hk : k < t.size) (h : nmOk (t[k]'hk) = false) : nameB t = false := by
  have hk' : k < t.data.toList.length := by simpa using hk
  have : t.data.toList.all nmOk = false := by
    rw [← Bool.not_eq_true, List.all_eq_true]
    intro hall
    have h1 := hall (t.data.toList[k]) (List.getElem_mem hk')
    have e : t.data.toList[k] = t[k]'hk := rfl
    rw [e, h] at h1
    cases h1
  unfold nameB
  rw [this, Bool.and_false]
theorem nameB_yes {t : ByteArray} (h1 : 1 ≤ t.size ∧ t.size ≤ 12) (h0 : 0 < t.size) (h2 : 65 ≤ (t[0]'h0).toNat ∧ (t[0]'h0).toNat ≤ 90) (h3 : ∀ (j : Nat) (hj : j < t.size), nmOk (t[j]'hj) = true) : nameB t = true := by
  have hh : t.data.toList.head? = some (t[0]'h0) := by rw [List.head?_eq_getElem?, List.getElem?_eq_getElem (by simpa using h0)]; rfl
  have ha : t.data.toList.all nmOk = true := by
    rw [List.all_eq_true]
    intro x hx
    obtain ⟨j, hj, rfl⟩ := List.mem_iff_getElem.1 hx
    exact h3 j (by simpa using hj)
  unfold nameB
  rw [hh, ha]
  simp [h1, h2]
theorem nm_next {t : ByteArray} {k : Nat} {hlt : k < t.size} (h : ∀ (j : Nat) (hj : j < t.size), j < k → nmOk (t[j]'hj) = true) (hk : nmOk (t[k]'hlt) = true) : ∀ (j : Nat) (hj : j < t.size), j < k + 1 → nmOk (t[j]'hj) = true := by
  intro j hj hjk
  rcases Nat.lt_or_ge j k with g | g
  · exact h j hj g
  · obtain rfl : j = k := by omega
    exact hk
set_option maxHeartbeats 1000000 in
theorem isName_any (t : ByteArray) (w : World) : Calls Tryz.prog 28 #[.string t] w fun e w' => e = .returned (.bool (nameB t)) ∧ w' = w := by
  by_cases hs : 1 ≤ t.size ∧ t.size ≤ 12
  · have hs1 : (1 : Int) ≤ (t.size : Int) := by omega
    have hs2 : (t.size : Int) ≤ 12 := by omega
    have hs3 : decide ((t.size : Int) < 1) = false := by simp; omega
    have hs4 : decide ((12 : Int) < (t.size : Int)) = false := by simp; omega
    have h0 : 0 < t.size := by omega
    have h0' : (0 : Int) < (t.size : Int) := by omega
    have hx0 : 0 ≤ ((t[0]'h0).toNat : Int) := by omega
    have hx1 : ((t[0]'h0).toNat : Int) ≤ 255 := by have := (t[0]'h0).toNat_lt; omega
    by_cases hh : 65 ≤ (t[0]'h0).toNat ∧ (t[0]'h0).toNat ≤ 90
    · have d1 : decide (((t[0]'h0).toNat : Int) < 65) = false := by simp; omega
      have d2 : decide ((90 : Int) < ((t[0]'h0).toNat : Int)) = false := by simp; omega
      have HH : Hid ((1 ≤ t.size ∧ t.size ≤ 12) ∧ 65 ≤ (t[0]'h0).toNat ∧ (t[0]'h0).toNat ≤ 90) := ⟨hs, hh⟩
      clear hh hs
      go_enter Tryz.func28, Tryz.ntmps28
      go_wp2
      go_loopw [25] (fun i wr => ∃ k : Nat, i = .int .i64 (k : Int) ∧ k ≤ t.size ∧ (∀ (j : Nat) (hj : j < t.size), j < k → nmOk (t[j]'hj) = true) ∧ wr = w) (fun i _ => t.size - (intOf i).toNat)
      case atStart => exact ⟨0, rfl, by omega, fun j hj h => by omega, rfl⟩
      case round =>
        obtain ⟨k, rfl, hk, hA, rfl⟩ := hrel
        have HA : Hid (∀ (j : Nat) (hj : j < t.size), j < k → nmOk (t[j]'hj) = true) := hA
        clear hA
        by_cases hlt : k < t.size
        · have hlt' : (k : Int) < (t.size : Int) := by omega
          have hy0 : 0 ≤ ((t[k]'hlt).toNat : Int) := by omega
          have hy1 : ((t[k]'hlt).toNat : Int) ≤ 255 := by have := (t[k]'hlt).toNat_lt; omega
          clear d1 d2 hx0 hx1 hs3 hs4
          go_wp2
          all_goals first
            | (go_roundw; (case rel => exact ⟨k + 1, by go_num, by omega, nm_next HA.out (by simp [nmOk] at *; omega), trivial⟩); (case measure => simp [intOf]; omega))
            | (go_ret; exact ⟨ret_bool (nameB_at k hlt (by simp [nmOk] at *; omega)).symm, rfl⟩)
        · obtain rfl : k = t.size := by omega
          go_wp2
          go_ret
          exact ⟨ret_bool (nameB_yes HH.out.1 h0 HH.out.2 fun j hj => HA.out j hj hj).symm, rfl⟩
    · have HN : Hid (nameB t = false) := nameB_head h0 hh
      by_cases d1 : ((t[0]'h0).toNat : Int) < 65
      · have d1' : decide (((t[0]'h0).toNat : Int) < 65) = true := by simpa using d1
        go_enter Tryz.func28, Tryz.ntmps28
        go_wp2
        go_ret
        exact ⟨ret_bool HN.out.symm, rfl⟩
      · have d1' : decide (((t[0]'h0).toNat : Int) < 65) = false := by simpa using d1
        have d2 : decide ((90 : Int) < ((t[0]'h0).toNat : Int)) = true := by simp; omega
        go_enter Tryz.func28, Tryz.ntmps28
        go_wp2
        go_ret
        exact ⟨ret_bool HN.out.symm, rfl⟩
  · have HN : Hid (nameB t = false) := nameB_size hs
    by_cases h1 : t.size < 1
    · have h1' : (t.size : Int) < 1 := by omega
      go_enter Tryz.func28, Tryz.ntmps28
      go_wp2
      go_ret
      exact ⟨ret_bool HN.out.symm, rfl⟩
    · have h1' : (1 : Int) ≤ (t.size : Int) := by omega
      have h2' : (12 : Int) < (t.size : Int) := by omega
      go_enter Tryz.func28, Tryz.ntmps28
      go_wp2
      go_ret
      exact ⟨ret_bool HN.out.symm, rfl⟩
set_option maxHeartbeats 1000000 in
theorem l01Name_any (t : ByteArray) (w : World) : Calls Tryz.prog 19 #[.string t] w fun e w' => e = .returned (.bool (nameB t)) ∧ w' = w := by
  by_cases hs : 1 ≤ t.size ∧ t.size ≤ 12
  · have hs1 : (1 : Int) ≤ (t.size : Int) := by omega
    have hs2 : (t.size : Int) ≤ 12 := by omega
    have hs3 : decide ((t.size : Int) < 1) = false := by simp; omega
    have hs4 : decide ((12 : Int) < (t.size : Int)) = false := by simp; omega
    have h0 : 0 < t.size := by omega
    have h0' : (0 : Int) < (t.size : Int) := by omega
    have hx0 : 0 ≤ ((t[0]'h0).toNat : Int) := by omega
    have hx1 : ((t[0]'h0).toNat : Int) ≤ 255 := by have := (t[0]'h0).toNat_lt; omega
    by_cases hh : 65 ≤ (t[0]'h0).toNat ∧ (t[0]'h0).toNat ≤ 90
    · have d1 : decide (((t[0]'h0).toNat : Int) < 65) = false := by simp; omega
      have d2 : decide ((90 : Int) < ((t[0]'h0).toNat : Int)) = false := by simp; omega
      have HH : Hid ((1 ≤ t.size ∧ t.size ≤ 12) ∧ 65 ≤ (t[0]'h0).toNat ∧ (t[0]'h0).toNat ≤ 90) := ⟨hs, hh⟩
      clear hh hs
      go_enter Tryz.func19, Tryz.ntmps19
      go_wp2
      go_loopw [3] (fun i wr => ∃ k : Nat, i = .int .i64 (k : Int) ∧ k ≤ t.size ∧ (∀ (j : Nat) (hj : j < t.size), j < k → nmOk (t[j]'hj) = true) ∧ wr = w) (fun i _ => t.size - (intOf i).toNat)
      case atStart => exact ⟨0, rfl, by omega, fun j hj h => by omega, rfl⟩
      case round =>
        obtain ⟨k, rfl, hk, hA, rfl⟩ := hrel
        have HA : Hid (∀ (j : Nat) (hj : j < t.size), j < k → nmOk (t[j]'hj) = true) := hA
        clear hA
        by_cases hlt : k < t.size
        · have hlt' : (k : Int) < (t.size : Int) := by omega
          have hy0 : 0 ≤ ((t[k]'hlt).toNat : Int) := by omega
          have hy1 : ((t[k]'hlt).toNat : Int) ≤ 255 := by have := (t[k]'hlt).toNat_lt; omega
          clear d1 d2 hx0 hx1 hs3 hs4
          go_wp2
          all_goals first
            | (go_roundw; (case rel => exact ⟨k + 1, by go_num, by omega, nm_next HA.out (by simp [nmOk] at *; omega), trivial⟩); (case measure => simp [intOf]; omega))
            | (go_ret; exact ⟨ret_bool (nameB_at k hlt (by simp [nmOk] at *; omega)).symm, rfl⟩)
        · obtain rfl : k = t.size := by omega
          go_wp2
          go_ret
          exact ⟨ret_bool (nameB_yes HH.out.1 h0 HH.out.2 fun j hj => HA.out j hj hj).symm, rfl⟩
    · have HN : Hid (nameB t = false) := nameB_head h0 hh
      by_cases d1 : ((t[0]'h0).toNat : Int) < 65
      · have d1' : decide (((t[0]'h0).toNat : Int) < 65) = true := by simpa using d1
        go_enter Tryz.func19, Tryz.ntmps19
        go_wp2
        go_ret
        exact ⟨ret_bool HN.out.symm, rfl⟩
      · have d1' : decide (((t[0]'h0).toNat : Int) < 65) = false := by simpa using d1
        have d2 : decide ((90 : Int) < ((t[0]'h0).toNat : Int)) = true := by simp; omega
        go_enter Tryz.func19, Tryz.ntmps19
        go_wp2
        go_ret
        exact ⟨ret_bool HN.out.symm, rfl⟩
  · have HN : Hid (nameB t = false) := nameB_size hs
    by_cases h1 : t.size < 1
    · have h1' : (t.size : Int) < 1 := by omega
      go_enter Tryz.func19, Tryz.ntmps19
      go_wp2
      go_ret
      exact ⟨ret_bool HN.out.symm, rfl⟩
    · have h1' : (1 : Int) ≤ (t.size : Int) := by omega
      have h2' : (12 : Int) < (t.size : Int) := by omega
      go_enter Tryz.func19, Tryz.ntmps19
      go_wp2
      go_ret
      exact ⟨ret_bool HN.out.symm, rfl⟩
end Go.Proofs.YtmffigmidlgigaaGreatDoor
namespace Go.Proofs.YtmffigmidlgigaaGreatDoor
open Go.ChangeShapes Go.WideShapes Go.ChangeAt Go.RowKit
def ctlB (n : Int) : Bool := decide (1 ≤ n) && decide (n ≤ 999999)
theorem ctlB_iff {n : Int} : ctlB n = true ↔ 1 ≤ n ∧ n ≤ 999999 := by simp [ctlB]
theorem isControl_any (n : Int) (w : World) : Calls Tryz.prog 29 #[.int .i64 n] w fun e w' => e = .returned (.bool (ctlB n)) ∧ w' = w := by
  by_cases h1 : 1 ≤ n
  · by_cases h2 : n ≤ 999999
    · go_enter Tryz.func29, Tryz.ntmps29
      go_wp2
      go_ret
      exact ⟨ret_bool (by simp [ctlB, h1, h2]), rfl⟩
    · go_enter Tryz.func29, Tryz.ntmps29
      go_wp2
      go_ret
      exact ⟨ret_bool (by simp [ctlB, h1, h2]), rfl⟩
  · go_enter Tryz.func29, Tryz.ntmps29
    go_wp2
    go_ret
    exact ⟨ret_bool (by simp [ctlB]; omega), rfl⟩
theorem l01Control_any (n : Int) (w : World) : Calls Tryz.prog 20 #[.int .i64 n] w fun e w' => e = .returned (.bool (ctlB n)) ∧ w' = w := by
  by_cases h1 : 1 ≤ n
  · by_cases h2 : n ≤ 999999
    · go_enter Tryz.func20, Tryz.ntmps20
      go_wp2
      go_ret
      exact ⟨ret_bool (by simp [ctlB, h1, h2]), rfl⟩
    · go_enter Tryz.func20, Tryz.ntmps20
      go_wp2
      go_ret
      exact ⟨ret_bool (by simp [ctlB, h1, h2]), rfl⟩
  · go_enter Tryz.func20, Tryz.ntmps20
    go_wp2
    go_ret
    exact ⟨ret_bool (by simp [ctlB]; omega), rfl⟩
end Go.Proofs.YtmffigmidlgigaaGreatDoor
namespace Go.Proofs.YtmffigmidlgigaaGreatDoor
open Go.ChangeShapes Go.WideShapes Go.ChangeAt Go.RowKit
def codeB (c : Int) : Bool := decide (0 ≤ c) && decide (c ≤ 13)
/-- One that may stand there, its number at least so great. -/
def snB (low least : Int) (s : Sn) : Bool := decide (least ≤ s.number) && (decide (s.number < low + 32) && (decide (s.number ≤ 999999) && (ctlB s.answer && codeB s.code)))
def seenB (low : Int) : Int → List Sn → Bool
  | _, [] => true
  | least, s :: r => snB low least s && seenB low (s.number + 1) r
def ptnB (p : Ptn) : Bool := nameB p.name && (ctlB p.low && (ctlB p.next && seenB p.low p.low p.seen))
theorem seenB_len {low : Int} : ∀ {rs : List Sn} {least : Int}, seenB low least rs = true → least ≤ low + 32 → least + rs.length ≤ low + 32
  | [], least, _, h => by simpa using h
  | s :: r, least, h, _ => by
    simp only [seenB, snB, Bool.and_eq_true, decide_eq_true_eq] at h
    have := seenB_len h.2 (by omega)
    simp only [List.length_cons]
    omega
theorem drop_at {α : Type} {l : List α} {k : Nat} {x : α} (h : l[k]? = some x) : l.drop k = x :: l.drop (k + 1) := by
  obtain ⟨hk, rfl⟩ := List.getElem?_eq_some_iff.1 h
  exact List.drop_eq_getElem_cons hk
theorem seen_step {low z : Int} {rs : List Sn} {k : Nat} {g : Sn} (h : rs[k]? = some g) : seenB low z (rs.drop k) = (snB low z g && seenB low (g.number + 1) (rs.drop (k + 1))) := by
  rw [drop_at h]
  rfl
theorem seen_end {low z : Int} {rs : List Sn} : seenB low z (rs.drop rs.length) = true := by
  rw [List.drop_length]
  rfl
end Go.Proofs.YtmffigmidlgigaaGreatDoor
