/- Texts of ours put together: CpI, AppSt, AppOl, LnP. -/
import Derived.Test.YtkgkahlhekecmaaGreatG20
import Derived.Test.YtkgkahlhekecmaaGreatG16
import Derived.Deep.RegionLaw
import Derived.Deep.RegionHeld3
import Derived.Deep.AppendLies
import Derived.Test.YtkgkahlhekecmaaGreatG00
import Derived.Laws.AppendOwn
import Derived.Maps.AppendAt
import Derived.Test.YtkgkahlhekecmaaGreatG17
import Derived.Test.YtkgkahlhekecmaaGreatG18
namespace Go.Proofs.YtkgkahlhekecmaaGreat
open Go.ChangeShapes Go.WideShapes Go.ChangeAt Go.RowKit
theorem cell_blk2 {W : World} {B i : Nat} {c : Array Value} {t : TypeId} {x : Value} (h : W.heap[B]? = some (.cells c t)) (hx : c[i]? = some x) : W.cell? ⟨B, i, none⟩ = some x := by
  unfold World.cell?
  rw [h]
  exact hx
theorem undrewC {a b : World} (h : Below a.drew.heap.size a.drew b) : Below a.heap.size a b := (Below.refl _ _).drew.trans h
set_option maxRecDepth 20000 in
set_option maxHeartbeats 8000000 in
theorem copyCs_any (v : Value) (rs : List Crs) (w : World) (h : RowCs w v rs) (hl : rs.length ≤ 1048576) (hz : ∀ c ∈ rs, c.partner.size ≤ 1048576 ∧ c.theirs.size ≤ 1048576 ∧ c.own.size ≤ 1048576) :
    Calls Tryz.prog 107 #[v] w fun e w' => ∃ u b, e = .returned u ∧ w.heap.size ≤ b ∧ LCs b w' u rs ∧ Below w.heap.size w w' := by
  obtain ⟨A, C, rfl⟩ := h.val
  have HR : Hid (RowCs w (.slice A rs.length C) rs ∧ ∀ c ∈ rs, c.partner.size ≤ 1048576 ∧ c.theirs.size ≤ 1048576 ∧ c.own.size ≤ 1048576) := ⟨h, hz⟩
  clear h hz
  obtain ⟨j0, hj0i, hi0, hi1, hi2⟩ := info_parts infoCsA
  go_enter Tryz.func107, Tryz.ntmps107
  go_wp2_with fail
  go_loopw [3, 8] (fun lv i wr => ∃ k : Nat, i = .int .i64 (k : Int) ∧ k ≤ rs.length ∧ (∃ A C, lv = .slice A k C) ∧ wr.ownsRow w.heap.size 106 3 lv k (clCss (rs.take k)) ∧ Below w.heap.size w wr) (fun _ i _ => rs.length - (intOf i).toNat)
  case atStart => exact ⟨0, rfl, by omega, ⟨none, 0, rfl⟩, by simpa [clCss] using World.ownsRow_nil w w.heap.size 106 3, Below.refl _ _⟩
  case round =>
    obtain ⟨k, rfl, hk, ⟨A1, C1, rfl⟩, hR, hb⟩ := hrel
    by_cases hlt : k < rs.length
    · have hlt' : (k : Int) < (rs.length : Int) := by omega
      obtain ⟨b, o, cap', c, e, hs, ⟨q0, q1, q2⟩, _⟩ := (HR.out.1.below hb).at hlt
      simp only [Value.slice.injEq, true_and] at e
      obtain ⟨rfl, rfl⟩ := e
      have hz := HR.out.2 c (List.mem_of_getElem? hs)
      obtain ⟨z0, z1, z2⟩ := hz
      have hmx : k + 1 ≤ maxLen := by unfold maxLen; omega
      obtain ⟨W1, hW1⟩ : ∃ W1, wr.alloc (.cells #[.string c.partner, .string c.theirs, .string c.own] 106) = W1 := ⟨_, rfl⟩
      have ha : Below wr.heap.size wr W1 := by rw [← hW1]; exact (Below.refl _ _).alloc (Nat.le_refl _) _
      have hbx : W1.heap[wr.heap.size]? = some (.cells #[.string c.partner, .string c.theirs, .string c.own] 106) := by rw [← hW1]; exact World.alloc_heap_new _ _
      obtain ⟨B, hB⟩ : ∃ B, B = wr.heap.size := ⟨_, rfl⟩
      rw [← hB] at hbx
      have hR1 : W1.ownsRow w.heap.size 106 3 (.slice A1 k C1) k (clCss (rs.take k)) := by rw [← hW1]; exact hR.alloc _
      have HG : Hid (Below w.heap.size w W1 ∧ W1.heap[B]? = some (.cells #[.string c.partner, .string c.theirs, .string c.own] 106) ∧ W1.ownsRow w.heap.size 106 3 (.slice A1 k C1) k (clCss (rs.take k)) ∧ rs[k]? = some c) := ⟨hb.trans (ha.mono hb.size), hbx, hR1, hs⟩
      have HC : Hid (∀ W, Below W1.heap.size W1 W → W.cell? ⟨B, 0, none⟩ = some (.string c.partner) ∧ W.cell? ⟨B, 1, none⟩ = some (.string c.theirs) ∧ W.cell? ⟨B, 2, none⟩ = some (.string c.own)) := fun W hW => by
        have e := (hW.block B (Array.getElem?_eq_some_iff.1 hbx).1).trans hbx
        exact ⟨cell_blk2 e rfl, cell_blk2 e rfl, cell_blk2 e rfl⟩
      have HW : Hid (∀ W, Below W1.heap.size W1 W → W.ownsRow w.heap.size 106 3 (.slice A1 k C1) k (clCss (rs.take k)) ∧ w.heap.size ≤ W.heap.size) := fun W hW => by
        refine ⟨hR1.kept (row := none) ⟨hW.os, hW.tape, hW.output, hW.size, fun j hj _ => hW.block j hj⟩ ?_, by have := HG.out.1.size; have := hW.size; omega⟩
        rcases hR1.2 with ⟨e, _⟩ | ⟨g, cap, cur, e, _⟩
        · exact .inl (by rw [e]; rfl)
        · exact .inr (by rw [e]; simp [Value.ownBlock])
      have HB : Hid (some B ≠ (Value.slice A1 k C1).ownBlock) := fun e => by
        have := (hR.lt B e.symm).2
        omega
      obtain ⟨c0, c1, c2⟩ := HC.out W1 (Below.refl _ _)
      go_upto_region 5 with fail
      try rw [hW1]
      try rw [← hB]
      clear hW1 ha hbx hR1 hR hb hs q0 q1 q2 hB
      go_region_held3 (fun W => W.cell? ⟨B, 0, none⟩ = some (.string c.partner) ∧ W.cell? ⟨B, 1, none⟩ = some (.string c.theirs) ∧ W.cell? ⟨B, 2, none⟩ = some (.string c.own)) (go_keep) (first | (go_at_call_of 105 (Value.string c.partner); refine (clone_any _ _ (by omega)).mono ?_; rintro e wa ⟨rfl, hba⟩; have ba : Below W1.heap.size W1 wa := (by first | exact hba | exact undrewC hba); obtain ⟨a0, a1, a2⟩ := HC.out wa ba; clear hba; try dsimp only) | (go_at_call_of 105 (Value.string c.theirs); refine (clone_any _ _ (by omega)).mono ?_; rintro e wb ⟨rfl, hbb⟩; have bb : Below W1.heap.size W1 wb := ba.trans ((by first | exact hbb | exact undrewC hbb : Below wa.heap.size wa wb).mono ba.size); obtain ⟨b0, b1, b2⟩ := HC.out wb bb; clear hbb; try dsimp only) | (go_at_call_of 105 (Value.string c.own); refine (clone_any _ _ (by omega)).mono ?_; rintro e wc ⟨rfl, hbc⟩; have bc : Below W1.heap.size W1 wc := bb.trans ((by first | exact hbc | exact undrewC hbc : Below wb.heap.size wb wc).mono bb.size); have bd : Below W1.heap.size W1 (wc.alloc (.cells #[.string c.partner, .string c.theirs, .string c.own] 106)) := bc.alloc bc.size _; have HD : Hid (Below W1.heap.size W1 (wc.alloc (.cells #[.string c.partner, .string c.theirs, .string c.own] 106))) := bd; have rowN := (HW.out _ bd).1; obtain ⟨d0, d1, d2⟩ := HC.out wc bc; obtain ⟨f0, f1, f2⟩ := HC.out _ bd; have szN := (HW.out _ bc).2; clear hbc bd; try dsimp only) | (refine step_append_lies _ (by rfl) _ _ _ (by rfl) w.heap.size 106 j0 _ 3 48 Tryz.underlying34 hj0i hi0 hi1 hi2 rfl (by omega) (.slice A1 k C1) k (clCss (rs.take k)) (by rfl) (by first | exact rowN | exact rowN.drew) ⟨wc.heap.size, 0, none⟩ 1 1 (clCs c) (by rfl) (by rfl) (World.news_of_block (cs := #[.string c.partner, .string c.theirs, .string c.own]) (t := 106) (fr := (0, 0)) (by first | exact World.alloc_heap_new wc _)) (by simp [Value.oneCell', clCs]) (by omega) hmx (by omega) (by simp; omega) (wc.heap.size + 1) (by simp) ?_; intro gg cap w4 hown4 hgrow hat4 hlt4; have u0 := hgrow.cell (HC.out _ HD.out).1 HB.out; have u1 := hgrow.cell (HC.out _ HD.out).2.1 HB.out; have u2 := hgrow.cell (HC.out _ HD.out).2.2 HB.out; try dsimp only))
      rename_i hHeld
      clear hHeld
      have e3 : rs.take (k + 1) = rs.take k ++ [c] := by
        rw [List.take_add_one, HG.out.2.2.2]
        rfl
      have H4 : Hid (w4.ownsRow w.heap.size 106 3 (.slice (some ⟨gg, 0, none⟩) (k + 1) cap) (k + 1) (clCss (rs.take (k + 1))) ∧ Below w.heap.size w w4) := by
        have hbd := HG.out.1.trans (HD.out.mono HG.out.1.size)
        have hg4 : (wc.alloc (.cells #[.string c.partner, .string c.theirs, .string c.own] 106)).grownBy w4 (Value.slice A1 k C1).ownBlock := hgrow
        refine ⟨by rw [e3, clCss_app]; exact hown4, hbd.trans ⟨hg4.os, hg4.tape, hg4.output, hg4.size, fun q hq => hg4.block q (by have := hbd.size; omega) (fun e => ?_)⟩⟩
        have := ((HW.out _ HD.out).1.lt q e.symm).1
        omega
      clear hown4 hgrow hat4 hlt4 u0 u1 u2 rowN szN d0 d1 d2 f0 f1 f2
      go_wp2
      go_roundw
      case rel => exact ⟨k + 1, by go_num, by omega, ⟨_, _, rfl⟩, H4.out.1, H4.out.2⟩
      case measure => simp [intOf]; omega
    · obtain rfl : k = rs.length := by omega
      have HF : Hid (wr.ownsRow w.heap.size 106 3 (.slice A1 rs.length C1) rs.length (clCss rs) ∧ Below w.heap.size w wr) := by
        rw [List.take_length] at hR
        exact ⟨hR, hb⟩
      clear hR hb
      go_wp2
      go_ret
      obtain ⟨b, hb1, hL⟩ := LCs.of_owns HF.out.1 (by omega) (fun i g hi => by have := HR.out.2 g (List.mem_of_getElem? hi); omega)
      exact ⟨_, b, rfl, hb1, hL, HF.out.2⟩
end Go.Proofs.YtkgkahlhekecmaaGreat
namespace Go.Proofs.YtkgkahlhekecmaaGreat
open Go.ChangeShapes Go.WideShapes Go.ChangeAt Go.RowKit
theorem infoStA : (Tryz.prog.info? 145).map (fun i => (i.zero, i.size, i.bytes)) = some (some (.agg #[.string ⟨#[]⟩, .int .i64 0]), 2, 24) := by kernel_rfl
/-- Its cells, one behind the other. -/
def clSt (g : Stk) : List Value := [.string g.item, .int .i64 g.hand]
def clSts (rs : List Stk) : List Value := rs.flatMap clSt
theorem clSts_len (rs : List Stk) : (clSts rs).length = rs.length * 2 := by
  induction rs with
  | nil => rfl
  | cons g r ih =>
    have : clSts (g :: r) = clSt g ++ clSts r := rfl
    rw [this, List.length_append, ih, List.length_cons]
    have : (clSt g).length = 2 := rfl
    omega
theorem clSts_app (rs : List Stk) (g : Stk) : clSts (rs ++ [g]) = clSts rs ++ clSt g := by simp [clSts]
theorem clSts_at : ∀ {rs : List Stk} {i : Nat} {g : Stk}, rs[i]? = some g → (clSts rs)[i * 2]? = some (.string g.item) ∧ (clSts rs)[i * 2 + 1]? = some (.int .i64 g.hand)
  | [], i, g, h => by simp at h
  | x :: r, 0, g, h => by
    simp only [List.getElem?_cons_zero, Option.some.injEq] at h
    subst h
    refine ⟨rfl, rfl⟩
  | x :: r, i + 1, g, h => by
    rw [List.getElem?_cons_succ] at h
    obtain ⟨e0, e1⟩ := clSts_at h
    have hc : clSts (x :: r) = clSt x ++ clSts r := rfl
    have hl : (clSt x).length = 2 := rfl
    refine ⟨?_, ?_⟩
    · rw [hc, List.getElem?_append_right (by omega), hl, ← e0]
      congr 1
      omega
    · rw [hc, List.getElem?_append_right (by omega), hl, ← e1]
      congr 1
      omega
/-- A list that the call has made by appends, read. -/
theorem LSt.of_owns {W : World} {base : Nat} {v : Value} {rs : List Stk} (h : W.ownsRow base 145 2 v rs.length (clSts rs)) (hl : rs.length ≤ 9223372036854775807) (hz : ∀ (i : Nat) (g : Stk), rs[i]? = some g → g.item.size ≤ 9223372036854775807) : ∃ b, base ≤ b ∧ LSt b W v rs := by
  rcases h.2 with ⟨rfl, h0⟩ | ⟨b, cap, cur, rfl, hb, hh, hc, hm, hs, ht⟩
  · refine ⟨base, Nat.le_refl _, ⟨none, 0, by rw [h0], fun hn => absurd (List.eq_nil_of_length_eq_zero h0) hn⟩, hl, hz⟩
  · refine ⟨b, hb, ⟨_, _, rfl, fun _ => ⟨rfl, cap * 2, fun i => cur[i]?.getD undef, ⟨cur, hh, hs, fun i hi => by simp [hs, hi]⟩, Nat.mul_le_mul_right _ hc, fun i g hi => ?_⟩⟩, hl, hz⟩
    obtain ⟨e0, e1⟩ := clSts_at hi
    have hlt := (List.getElem?_eq_some_iff.1 hi).1
    rw [← ht] at e0 e1
    have get : ∀ (j : Nat) (x : Value), j < rs.length * 2 → (cur.toList.take (rs.length * 2))[j]? = some x → cur[j]?.getD undef = x := fun j x hj hx => by
      rw [List.getElem?_take_of_lt hj, Array.getElem?_toList] at hx
      rw [hx]
      rfl
    exact ⟨get _ _ (by omega) e0, get _ _ (by omega) e1⟩
/-- An append of one, at the list of a plain region's operations. -/
theorem wpList_appSt {ops : Array Oper} {rest : List Oper} {o : Oper} {a : Act} {Q : Exit → Act → World → Prop} {W : World} {base c C : Nat} {lv : Value} {rs : List Stk} {g : Stk} (hgd : o.guard = none) (s x : Operand)
    (ho : o.op = .call { callee := .builtin .append, args := #[s, x], argTypes := #[35, 35] })
    (hs' : a.eval s = lv) (hx : a.eval x = .slice (some ⟨c, 0, none⟩) 1 C) (h : W.ownsRow base 145 2 lv rs.length (clSts rs)) (hg : AtSt W c 0 g) (hl : rs.length + 1 ≤ 2000000) (hbase : base ≤ W.heap.size)
    (k : ∀ v' w', w'.ownsRow base 145 2 v' (rs ++ [g]).length (clSts (rs ++ [g])) → W.grownBy w' lv.ownBlock → (∃ A C, v' = .slice A (rs ++ [g]).length C) → wpList Tryz.prog ops Q rest (a.put o.dst v') w') : wpList Tryz.prog ops Q (o :: rest) a W := by
  obtain ⟨i0, hi, hz0, hz1, hz2⟩ := info_parts infoStA
  obtain ⟨q0, q1⟩ := hg
  refine wpList_append_own W hgd s x 35 ho base 145 i0 (.agg #[.string ⟨#[]⟩, .int .i64 0]) 2 24 Tryz.underlying35 hi hz0 hz1 hz2 rfl (by decide) lv rs.length (clSts rs) hs' h ⟨c, 0, none⟩ 1 C (clSt g) hx rfl (fun j u hu => ?_) (fun u hu => ?_) (by unfold maxLen; omega) (by omega) hbase ?_
  · rw [fl_addr]
    have hj := (List.getElem?_eq_some_iff.1 hu).1
    have hj3 : j < 2 := hj
    match j, hj3 with
    | 0, _ =>
      cases hu
      simpa using q0
    | 1, _ =>
      cases hu
      simpa using q1
  · simp only [clSt, List.mem_cons, List.not_mem_nil, or_false] at hu
    rcases hu with rfl | rfl <;> rfl
  · intro v' w' hown hgrow hnil
    have e1 : (rs ++ [g]).length = rs.length + 1 := by simp
    have hown' : w'.ownsRow base 145 2 v' (rs ++ [g]).length (clSts (rs ++ [g])) := by
      rw [e1, clSts_app]
      exact hown
    refine k v' w' hown' hgrow ?_
    rcases hown'.2 with ⟨rfl, h0⟩ | ⟨b, cap, cur, rfl, _⟩
    · exact ⟨none, 0, by rw [h0]⟩
    · exact ⟨_, _, rfl⟩
theorem clSts_get : ∀ {rs : List Stk} {j : Nat} {u : Value}, (clSts rs)[j]? = some u → ∃ (i : Nat) (g : Stk), rs[i]? = some g ∧ ((j = i * 2 ∧ u = .string g.item) ∨ (j = i * 2 + 1 ∧ u = .int .i64 g.hand))
  | [], j, u, h => by simp [clSts] at h
  | x :: r, j, u, h => by
    have hc : clSts (x :: r) = clSt x ++ clSts r := rfl
    have hl : (clSt x).length = 2 := rfl
    rw [hc] at h
    by_cases hj : j < 2
    · rw [List.getElem?_append_left (by omega)] at h
      refine ⟨0, x, rfl, ?_⟩
      match j, hj with
      | 0, _ => cases h; simp
      | 1, _ => cases h; simp
    · rw [List.getElem?_append_right (by omega), hl] at h
      obtain ⟨i, g, hg, ho⟩ := clSts_get h
      refine ⟨i + 1, g, by simpa using hg, ?_⟩
      rcases ho with ⟨h1, h2⟩ | ⟨h1, h2⟩
      · exact .inl ⟨by omega, h2⟩
      · exact .inr (⟨by omega, h2⟩)
/-- An append of a list, at the list of a plain region's operations. -/
theorem wpList_appsSt {ops : Array Oper} {rest : List Oper} {o : Oper} {a : Act} {Q : Exit → Act → World → Prop} {W : World} {base C : Nat} {lv : Value} {ad : Addr} {rs ms : List Stk} (hgd : o.guard = none) (s x : Operand)
    (ho : o.op = .call { callee := .builtin .append, args := #[s, x], argTypes := #[35, 35] })
    (hs' : a.eval s = lv) (hx : a.eval x = .slice (some ad) ms.length C) (h : W.ownsRow base 145 2 lv rs.length (clSts rs)) (hg : RowSt W (.slice (some ad) ms.length C) ms) (hl : rs.length + ms.length ≤ 2000000) (hbase : base ≤ W.heap.size)
    (k : ∀ v' w', w'.ownsRow base 145 2 v' (rs ++ ms).length (clSts (rs ++ ms)) → W.grownBy w' lv.ownBlock → (∃ A C, v' = .slice A (rs ++ ms).length C) → wpList Tryz.prog ops Q rest (a.put o.dst v') w') : wpList Tryz.prog ops Q (o :: rest) a W := by
  obtain ⟨i0, hi, hz0, hz1, hz2⟩ := info_parts infoStA
  refine wpList_append_own W hgd s x 35 ho base 145 i0 (.agg #[.string ⟨#[]⟩, .int .i64 0]) 2 24 Tryz.underlying35 hi hz0 hz1 hz2 rfl (by decide) lv rs.length (clSts rs) hs' h ad ms.length C (clSts ms) hx (clSts_len ms) (fun j u hu => ?_) (fun u hu => ?_) (by unfold maxLen; omega) (by omega) hbase ?_
  · obtain ⟨i, g, hg', ho'⟩ := clSts_get hu
    obtain ⟨a', cap, e, hc⟩ := hg.shape
    simp only [Value.slice.injEq] at e
    obtain ⟨b, o', ea, hcell⟩ := hc (by intro e2; rw [e2] at hg'; simp at hg')
    rw [← e.1] at ea
    cases ea
    obtain ⟨q0, q1⟩ := hcell i g hg'
    rw [fl_addr]
    rcases ho' with ⟨rfl, rfl⟩ | ⟨rfl, rfl⟩
    · first | exact q0 | (rw [← q0]; congr 2; omega)
    · first | exact q1 | (rw [← q1]; congr 2; omega)
  · obtain ⟨j, hj⟩ := List.getElem?_of_mem hu
    obtain ⟨i, g, _, ho'⟩ := clSts_get hj
    rcases ho' with ⟨_, rfl⟩ | ⟨_, rfl⟩ <;> rfl
  · intro v' w' hown hgrow hnil
    have e1 : (rs ++ ms).length = rs.length + ms.length := by simp
    have e2 : clSts (rs ++ ms) = clSts rs ++ clSts ms := by simp [clSts]
    have hown' : w'.ownsRow base 145 2 v' (rs ++ ms).length (clSts (rs ++ ms)) := by
      rw [e1, e2]
      exact hown
    refine k v' w' hown' hgrow ?_
    rcases hown'.2 with ⟨rfl, h0⟩ | ⟨b, cap, cur, rfl, _⟩
    · exact ⟨none, 0, by rw [h0]⟩
    · exact ⟨_, _, rfl⟩
end Go.Proofs.YtkgkahlhekecmaaGreat
namespace Go.Proofs.YtkgkahlhekecmaaGreat
open Go.ChangeShapes Go.WideShapes Go.ChangeAt Go.RowKit
theorem infoOlA : (Tryz.prog.info? 151).map (fun i => (i.zero, i.size, i.bytes)) = some (some (.agg #[.string ⟨#[]⟩, .string ⟨#[]⟩, .int .i64 0, .string ⟨#[]⟩, .int .i64 0, .int .i64 0, .int .i64 0, .int .i64 0]), 8, 88) := by kernel_rfl
/-- Its cells, one behind the other. -/
def clOl (g : OLn) : List Value := [.string g.partner, .string g.ref, .int .i64 g.no, .string g.item, .int .i64 g.ordered, .int .i64 g.sent, .int .i64 g.got, .int .i64 g.cut]
def clOls (rs : List OLn) : List Value := rs.flatMap clOl
theorem clOls_len (rs : List OLn) : (clOls rs).length = rs.length * 8 := by
  induction rs with
  | nil => rfl
  | cons g r ih =>
    have : clOls (g :: r) = clOl g ++ clOls r := rfl
    rw [this, List.length_append, ih, List.length_cons]
    have : (clOl g).length = 8 := rfl
    omega
theorem clOls_app (rs : List OLn) (g : OLn) : clOls (rs ++ [g]) = clOls rs ++ clOl g := by simp [clOls]
theorem clOls_at : ∀ {rs : List OLn} {i : Nat} {g : OLn}, rs[i]? = some g → (clOls rs)[i * 8]? = some (.string g.partner) ∧ (clOls rs)[i * 8 + 1]? = some (.string g.ref) ∧ (clOls rs)[i * 8 + 2]? = some (.int .i64 g.no) ∧ (clOls rs)[i * 8 + 3]? = some (.string g.item) ∧ (clOls rs)[i * 8 + 4]? = some (.int .i64 g.ordered) ∧ (clOls rs)[i * 8 + 5]? = some (.int .i64 g.sent) ∧ (clOls rs)[i * 8 + 6]? = some (.int .i64 g.got) ∧ (clOls rs)[i * 8 + 7]? = some (.int .i64 g.cut)
  | [], i, g, h => by simp at h
  | x :: r, 0, g, h => by
    simp only [List.getElem?_cons_zero, Option.some.injEq] at h
    subst h
    refine ⟨rfl, rfl, rfl, rfl, rfl, rfl, rfl, rfl⟩
  | x :: r, i + 1, g, h => by
    rw [List.getElem?_cons_succ] at h
    obtain ⟨e0, e1, e2, e3, e4, e5, e6, e7⟩ := clOls_at h
    have hc : clOls (x :: r) = clOl x ++ clOls r := rfl
    have hl : (clOl x).length = 8 := rfl
    refine ⟨?_, ?_, ?_, ?_, ?_, ?_, ?_, ?_⟩
    · rw [hc, List.getElem?_append_right (by omega), hl, ← e0]
      congr 1
      omega
    · rw [hc, List.getElem?_append_right (by omega), hl, ← e1]
      congr 1
      omega
    · rw [hc, List.getElem?_append_right (by omega), hl, ← e2]
      congr 1
      omega
    · rw [hc, List.getElem?_append_right (by omega), hl, ← e3]
      congr 1
      omega
    · rw [hc, List.getElem?_append_right (by omega), hl, ← e4]
      congr 1
      omega
    · rw [hc, List.getElem?_append_right (by omega), hl, ← e5]
      congr 1
      omega
    · rw [hc, List.getElem?_append_right (by omega), hl, ← e6]
      congr 1
      omega
    · rw [hc, List.getElem?_append_right (by omega), hl, ← e7]
      congr 1
      omega
/-- A list that the call has made by appends, read. -/
theorem LOl.of_owns {W : World} {base : Nat} {v : Value} {rs : List OLn} (h : W.ownsRow base 151 8 v rs.length (clOls rs)) (hl : rs.length ≤ 9223372036854775807) (hz : ∀ (i : Nat) (g : OLn), rs[i]? = some g → g.partner.size ≤ 9223372036854775807 ∧ g.ref.size ≤ 9223372036854775807 ∧ g.item.size ≤ 9223372036854775807) : ∃ b, base ≤ b ∧ LOl b W v rs := by
  rcases h.2 with ⟨rfl, h0⟩ | ⟨b, cap, cur, rfl, hb, hh, hc, hm, hs, ht⟩
  · refine ⟨base, Nat.le_refl _, ⟨none, 0, by rw [h0], fun hn => absurd (List.eq_nil_of_length_eq_zero h0) hn⟩, hl, hz⟩
  · refine ⟨b, hb, ⟨_, _, rfl, fun _ => ⟨rfl, cap * 8, fun i => cur[i]?.getD undef, ⟨cur, hh, hs, fun i hi => by simp [hs, hi]⟩, Nat.mul_le_mul_right _ hc, fun i g hi => ?_⟩⟩, hl, hz⟩
    obtain ⟨e0, e1, e2, e3, e4, e5, e6, e7⟩ := clOls_at hi
    have hlt := (List.getElem?_eq_some_iff.1 hi).1
    rw [← ht] at e0 e1 e2 e3 e4 e5 e6 e7
    have get : ∀ (j : Nat) (x : Value), j < rs.length * 8 → (cur.toList.take (rs.length * 8))[j]? = some x → cur[j]?.getD undef = x := fun j x hj hx => by
      rw [List.getElem?_take_of_lt hj, Array.getElem?_toList] at hx
      rw [hx]
      rfl
    exact ⟨get _ _ (by omega) e0, get _ _ (by omega) e1, get _ _ (by omega) e2, get _ _ (by omega) e3, get _ _ (by omega) e4, get _ _ (by omega) e5, get _ _ (by omega) e6, get _ _ (by omega) e7⟩
/-- An append of one, at the list of a plain region's operations. -/
theorem wpList_appOl {ops : Array Oper} {rest : List Oper} {o : Oper} {a : Act} {Q : Exit → Act → World → Prop} {W : World} {base c C : Nat} {lv : Value} {rs : List OLn} {g : OLn} (hgd : o.guard = none) (s x : Operand)
    (ho : o.op = .call { callee := .builtin .append, args := #[s, x], argTypes := #[36, 36] })
    (hs' : a.eval s = lv) (hx : a.eval x = .slice (some ⟨c, 0, none⟩) 1 C) (h : W.ownsRow base 151 8 lv rs.length (clOls rs)) (hg : AtOl W c 0 g) (hl : rs.length + 1 ≤ 2000000) (hbase : base ≤ W.heap.size)
    (k : ∀ v' w', w'.ownsRow base 151 8 v' (rs ++ [g]).length (clOls (rs ++ [g])) → W.grownBy w' lv.ownBlock → (∃ A C, v' = .slice A (rs ++ [g]).length C) → wpList Tryz.prog ops Q rest (a.put o.dst v') w') : wpList Tryz.prog ops Q (o :: rest) a W := by
  obtain ⟨i0, hi, hz0, hz1, hz2⟩ := info_parts infoOlA
  obtain ⟨q0, q1, q2, q3, q4, q5, q6, q7⟩ := hg
  refine wpList_append_own W hgd s x 36 ho base 151 i0 (.agg #[.string ⟨#[]⟩, .string ⟨#[]⟩, .int .i64 0, .string ⟨#[]⟩, .int .i64 0, .int .i64 0, .int .i64 0, .int .i64 0]) 8 88 Tryz.underlying36 hi hz0 hz1 hz2 rfl (by decide) lv rs.length (clOls rs) hs' h ⟨c, 0, none⟩ 1 C (clOl g) hx rfl (fun j u hu => ?_) (fun u hu => ?_) (by unfold maxLen; omega) (by omega) hbase ?_
  · rw [fl_addr]
    have hj := (List.getElem?_eq_some_iff.1 hu).1
    have hj3 : j < 8 := hj
    match j, hj3 with
    | 0, _ =>
      cases hu
      simpa using q0
    | 1, _ =>
      cases hu
      simpa using q1
    | 2, _ =>
      cases hu
      simpa using q2
    | 3, _ =>
      cases hu
      simpa using q3
    | 4, _ =>
      cases hu
      simpa using q4
    | 5, _ =>
      cases hu
      simpa using q5
    | 6, _ =>
      cases hu
      simpa using q6
    | 7, _ =>
      cases hu
      simpa using q7
  · simp only [clOl, List.mem_cons, List.not_mem_nil, or_false] at hu
    rcases hu with rfl | rfl | rfl | rfl | rfl | rfl | rfl | rfl <;> rfl
  · intro v' w' hown hgrow hnil
    have e1 : (rs ++ [g]).length = rs.length + 1 := by simp
    have hown' : w'.ownsRow base 151 8 v' (rs ++ [g]).length (clOls (rs ++ [g])) := by
      rw [e1, clOls_app]
      exact hown
    refine k v' w' hown' hgrow ?_
    rcases hown'.2 with ⟨rfl, h0⟩ | ⟨b, cap, cur, rfl, _⟩
    · exact ⟨none, 0, by rw [h0]⟩
    · exact ⟨_, _, rfl⟩
theorem clOls_get : ∀ {rs : List OLn} {j : Nat} {u : Value}, (clOls rs)[j]? = some u → ∃ (i : Nat) (g : OLn), rs[i]? = some g ∧ ((j = i * 8 ∧ u = .string g.partner) ∨ (j = i * 8 + 1 ∧ u = .string g.ref) ∨ (j = i * 8 + 2 ∧ u = .int .i64 g.no) ∨ (j = i * 8 + 3 ∧ u = .string g.item) ∨ (j = i * 8 + 4 ∧ u = .int .i64 g.ordered) ∨ (j = i * 8 + 5 ∧ u = .int .i64 g.sent) ∨ (j = i * 8 + 6 ∧ u = .int .i64 g.got) ∨ (j = i * 8 + 7 ∧ u = .int .i64 g.cut))
  | [], j, u, h => by simp [clOls] at h
  | x :: r, j, u, h => by
    have hc : clOls (x :: r) = clOl x ++ clOls r := rfl
    have hl : (clOl x).length = 8 := rfl
    rw [hc] at h
    by_cases hj : j < 8
    · rw [List.getElem?_append_left (by omega)] at h
      refine ⟨0, x, rfl, ?_⟩
      match j, hj with
      | 0, _ => cases h; simp
      | 1, _ => cases h; simp
      | 2, _ => cases h; simp
      | 3, _ => cases h; simp
      | 4, _ => cases h; simp
      | 5, _ => cases h; simp
      | 6, _ => cases h; simp
      | 7, _ => cases h; simp
    · rw [List.getElem?_append_right (by omega), hl] at h
      obtain ⟨i, g, hg, ho⟩ := clOls_get h
      refine ⟨i + 1, g, by simpa using hg, ?_⟩
      rcases ho with ⟨h1, h2⟩ | ⟨h1, h2⟩ | ⟨h1, h2⟩ | ⟨h1, h2⟩ | ⟨h1, h2⟩ | ⟨h1, h2⟩ | ⟨h1, h2⟩ | ⟨h1, h2⟩
      · exact .inl ⟨by omega, h2⟩
      · exact .inr (.inl ⟨by omega, h2⟩)
      · exact .inr (.inr (.inl ⟨by omega, h2⟩))
      · exact .inr (.inr (.inr (.inl ⟨by omega, h2⟩)))
      · exact .inr (.inr (.inr (.inr (.inl ⟨by omega, h2⟩))))
      · exact .inr (.inr (.inr (.inr (.inr (.inl ⟨by omega, h2⟩)))))
      · exact .inr (.inr (.inr (.inr (.inr (.inr (.inl ⟨by omega, h2⟩))))))
      · exact .inr (.inr (.inr (.inr (.inr (.inr (.inr (⟨by omega, h2⟩)))))))
/-- An append of a list, at the list of a plain region's operations. -/
theorem wpList_appsOl {ops : Array Oper} {rest : List Oper} {o : Oper} {a : Act} {Q : Exit → Act → World → Prop} {W : World} {base C : Nat} {lv : Value} {ad : Addr} {rs ms : List OLn} (hgd : o.guard = none) (s x : Operand)
    (ho : o.op = .call { callee := .builtin .append, args := #[s, x], argTypes := #[36, 36] })
    (hs' : a.eval s = lv) (hx : a.eval x = .slice (some ad) ms.length C) (h : W.ownsRow base 151 8 lv rs.length (clOls rs)) (hg : RowOl W (.slice (some ad) ms.length C) ms) (hl : rs.length + ms.length ≤ 2000000) (hbase : base ≤ W.heap.size)
    (k : ∀ v' w', w'.ownsRow base 151 8 v' (rs ++ ms).length (clOls (rs ++ ms)) → W.grownBy w' lv.ownBlock → (∃ A C, v' = .slice A (rs ++ ms).length C) → wpList Tryz.prog ops Q rest (a.put o.dst v') w') : wpList Tryz.prog ops Q (o :: rest) a W := by
  obtain ⟨i0, hi, hz0, hz1, hz2⟩ := info_parts infoOlA
  refine wpList_append_own W hgd s x 36 ho base 151 i0 (.agg #[.string ⟨#[]⟩, .string ⟨#[]⟩, .int .i64 0, .string ⟨#[]⟩, .int .i64 0, .int .i64 0, .int .i64 0, .int .i64 0]) 8 88 Tryz.underlying36 hi hz0 hz1 hz2 rfl (by decide) lv rs.length (clOls rs) hs' h ad ms.length C (clOls ms) hx (clOls_len ms) (fun j u hu => ?_) (fun u hu => ?_) (by unfold maxLen; omega) (by omega) hbase ?_
  · obtain ⟨i, g, hg', ho'⟩ := clOls_get hu
    obtain ⟨a', cap, e, hc⟩ := hg.shape
    simp only [Value.slice.injEq] at e
    obtain ⟨b, o', ea, hcell⟩ := hc (by intro e2; rw [e2] at hg'; simp at hg')
    rw [← e.1] at ea
    cases ea
    obtain ⟨q0, q1, q2, q3, q4, q5, q6, q7⟩ := hcell i g hg'
    rw [fl_addr]
    rcases ho' with ⟨rfl, rfl⟩ | ⟨rfl, rfl⟩ | ⟨rfl, rfl⟩ | ⟨rfl, rfl⟩ | ⟨rfl, rfl⟩ | ⟨rfl, rfl⟩ | ⟨rfl, rfl⟩ | ⟨rfl, rfl⟩
    · first | exact q0 | (rw [← q0]; congr 2; omega)
    · first | exact q1 | (rw [← q1]; congr 2; omega)
    · first | exact q2 | (rw [← q2]; congr 2; omega)
    · first | exact q3 | (rw [← q3]; congr 2; omega)
    · first | exact q4 | (rw [← q4]; congr 2; omega)
    · first | exact q5 | (rw [← q5]; congr 2; omega)
    · first | exact q6 | (rw [← q6]; congr 2; omega)
    · first | exact q7 | (rw [← q7]; congr 2; omega)
  · obtain ⟨j, hj⟩ := List.getElem?_of_mem hu
    obtain ⟨i, g, _, ho'⟩ := clOls_get hj
    rcases ho' with ⟨_, rfl⟩ | ⟨_, rfl⟩ | ⟨_, rfl⟩ | ⟨_, rfl⟩ | ⟨_, rfl⟩ | ⟨_, rfl⟩ | ⟨_, rfl⟩ | ⟨_, rfl⟩ <;> rfl
  · intro v' w' hown hgrow hnil
    have e1 : (rs ++ ms).length = rs.length + ms.length := by simp
    have e2 : clOls (rs ++ ms) = clOls rs ++ clOls ms := by simp [clOls]
    have hown' : w'.ownsRow base 151 8 v' (rs ++ ms).length (clOls (rs ++ ms)) := by
      rw [e1, e2]
      exact hown
    refine k v' w' hown' hgrow ?_
    rcases hown'.2 with ⟨rfl, h0⟩ | ⟨b, cap, cur, rfl, _⟩
    · exact ⟨none, 0, by rw [h0]⟩
    · exact ⟨_, _, rfl⟩
end Go.Proofs.YtkgkahlhekecmaaGreat
namespace Go.Proofs.YtkgkahlhekecmaaGreat
open Go.ChangeShapes Go.WideShapes Go.ChangeAt Go.RowKit
open Go.Lib (compareBytes)
/-- A quantity. -/
def qtyB (z : Int) : Bool := decide (1 ≤ z ∧ z ≤ 1000000)
theorem qtyB_yes {z : Int} (h : 1 ≤ z ∧ z ≤ 1000000) : qtyB z = true := decide_eq_true h
theorem qtyB_no {z : Int} (h : ¬ (1 ≤ z ∧ z ≤ 1000000)) : qtyB z = false := decide_eq_false h
/-- A right line. -/
structure LnOk (l : OLn) : Prop where
  p : nameB l.partner = true
  r : nameB l.ref = true
  i : nameB l.item = true
  n1 : 1 ≤ l.no
  n2 : l.no ≤ 999
  o1 : 1 ≤ l.ordered
  o2 : l.ordered ≤ 1000000
  s0 : 0 ≤ l.sent
  g0 : 0 ≤ l.got
  c0 : 0 ≤ l.cut
  gs : l.got ≤ l.sent
  so : l.sent ≤ l.ordered
  co : l.cut ≤ l.ordered - l.sent
open Classical in
noncomputable def lnB (l : OLn) : Bool := decide (LnOk l)
theorem lnB_yes {l : OLn} (h : LnOk l) : lnB l = true := by simp [lnB, h]
theorem lnB_no {l : OLn} (h : ¬ LnOk l) : lnB l = false := by simp [lnB, h]
theorem lnB_iff {l : OLn} : lnB l = true ↔ LnOk l := by simp [lnB]
theorem lnB_iff' {l : OLn} : lnB l = false ↔ ¬ LnOk l := by simp [lnB]
/-- Its three texts are names, its No is one. -/
def nmdB (l : OLn) : Bool := nameB l.partner && (nameB l.ref && (nameB l.item && decide (1 ≤ l.no ∧ l.no ≤ 999)))
/-- Its numbers fit together. -/
def cntB (l : OLn) : Bool := decide (1 ≤ l.ordered ∧ l.ordered ≤ 1000000 ∧ 0 ≤ l.got ∧ l.got ≤ l.sent ∧ l.sent ≤ l.ordered ∧ 0 ≤ l.cut ∧ l.cut ≤ l.ordered - l.sent)
theorem lnB_split (l : OLn) : lnB l = (nmdB l && cntB l) := by
  cases h : (nmdB l && cntB l) with
  | true =>
    simp only [nmdB, cntB, Bool.and_eq_true, decide_eq_true_eq] at h
    obtain ⟨⟨h1, h2, h3, h4, h5⟩, h6, h7, h8, h9, h10, h11, h12⟩ := h
    exact lnB_yes ⟨h1, h2, h3, h4, h5, h6, h7, by omega, h8, h11, h9, h10, h12⟩
  | false =>
    refine lnB_no fun g => ?_
    have : (nmdB l && cntB l) = true := by
      simp only [nmdB, cntB, Bool.and_eq_true, decide_eq_true_eq]
      exact ⟨⟨g.p, g.r, g.i, g.n1, g.n2⟩, g.o1, g.o2, g.g0, g.gs, g.so, g.c0, g.co⟩
    rw [this] at h
    cases h
theorem nameB_sizes {t : ByteArray} (h : nameB t = true) : 1 ≤ t.size ∧ t.size ≤ 12 := by
  simp only [nameB, Bool.and_eq_true, decide_eq_true_eq] at h
  exact h.1.1
/-- Ahead of: by Partner, then by Ref, then by No. -/
def befL (a b : OLn) : Bool := Op.bytesLess a.partner.toList b.partner.toList || (a.partner.toList == b.partner.toList && (Op.bytesLess a.ref.toList b.ref.toList || (a.ref.toList == b.ref.toList && decide (a.no < b.no))))
theorem befL_trans {a b c : OLn} (h1 : befL a b = true) (h2 : befL b c = true) : befL a c = true := by
  simp only [befL, Bool.or_eq_true, Bool.and_eq_true, beq_iff_eq, decide_eq_true_eq] at h1 h2 ⊢
  rcases h1 with h1 | ⟨e1, h1⟩ <;> rcases h2 with h2 | ⟨e2, h2⟩
  · exact .inl (bl_trans h1 h2)
  · exact .inl (e2 ▸ h1)
  · exact .inl (e1 ▸ h2)
  · refine .inr ⟨e1.trans e2, ?_⟩
    rcases h1 with h1 | ⟨f1, h1⟩ <;> rcases h2 with h2 | ⟨f2, h2⟩
    · exact .inl (bl_trans h1 h2)
    · exact .inl (f2 ▸ h1)
    · exact .inl (f1 ▸ h2)
    · exact .inr ⟨f1.trans f2, by omega⟩
theorem befL_irrefl (a : OLn) : befL a a = false := by simp [befL, bl_irrefl]
theorem befL_asymm {a b : OLn} (h : befL a b = true) : befL b a = false := by
  cases e : befL b a with
  | false => rfl
  | true =>
    have := befL_trans h e
    rw [befL_irrefl] at this
    cases this
/-- The three that lines are told apart by. -/
def keyL (l : OLn) : ByteArray × ByteArray × Int := (l.partner, l.ref, l.no)
theorem ba_list {a b : ByteArray} (h : a.toList = b.toList) : a = b := by
  rw [ByteArray.toList_eq, ByteArray.toList_eq] at h
  exact ByteArray.ext (Array.toList_inj.1 h)
theorem befL_tri {a b : OLn} (h1 : befL a b = false) (h2 : befL b a = false) : keyL a = keyL b := by
  simp only [befL, Bool.or_eq_false_iff, Bool.and_eq_false_iff, beq_eq_false_iff_ne, decide_eq_false_iff_not] at h1 h2
  have ep := bl_tri h1.1 h2.1
  have h1' := h1.2.resolve_left (by simp [ep])
  have h2' := h2.2.resolve_left (by simp [ep])
  have er := bl_tri h1'.1 h2'.1
  have h1n := h1'.2.resolve_left (by simp [er])
  have h2n := h2'.2.resolve_left (by simp [er])
  have en : a.no = b.no := by omega
  simp [keyL, ba_list ep, ba_list er, en]
theorem befL_key {a b : OLn} (h : befL a b = true) : keyL a ≠ keyL b := fun e => by
  simp only [keyL, Prod.mk.injEq] at e
  simp [befL, e.1, e.2.1, e.2.2, bl_irrefl] at h
theorem befL_congr {a b c d : OLn} (h1 : keyL a = keyL c) (h2 : keyL b = keyL d) : befL a b = befL c d := by
  simp only [keyL, Prod.mk.injEq] at h1 h2
  simp [befL, h1.1, h1.2.1, h1.2.2, h2.1, h2.2.1, h2.2.2]
def cmpZ (x y : Int) : Int := if x < y then -1 else if y < x then 1 else 0
def orZ (x y : Int) : Int := if x = 0 then y else x
/-- compare's own answer. -/
def lcmp (a b : OLn) : Int := orZ (compareBytes a.partner.data.toList b.partner.data.toList) (orZ (compareBytes a.ref.data.toList b.ref.data.toList) (cmpZ a.no b.no))
theorem lcmp_neg (a b : OLn) : lcmp a b < 0 ↔ befL a b = true := by
  simp only [lcmp, orZ, befL, Bool.or_eq_true, Bool.and_eq_true, beq_iff_eq, decide_eq_true_eq, ByteArray.toList_eq]
  by_cases h : compareBytes a.partner.data.toList b.partner.data.toList = 0
  · rw [if_pos h]
    have e := (cb_zero _ _).1 h
    rw [e]
    simp only [bl_irrefl, Bool.false_eq_true, true_and, false_or]
    by_cases h2 : compareBytes a.ref.data.toList b.ref.data.toList = 0
    · rw [if_pos h2]
      have e2 := (cb_zero _ _).1 h2
      rw [e2]
      simp only [bl_irrefl, Bool.false_eq_true, true_and, false_or, cmpZ]
      split
      · simp [*]
      · split <;> simp [*]
    · rw [if_neg h2, cb_neg]
      have e2 : ¬ a.ref.data.toList = b.ref.data.toList := fun e => h2 ((cb_zero _ _).2 e)
      simp [e2]
  · rw [if_neg h, cb_neg]
    have e : ¬ a.partner.data.toList = b.partner.data.toList := fun e => h ((cb_zero _ _).2 e)
    simp [e]
theorem lcmp_pos (a b : OLn) : 0 < lcmp a b ↔ befL b a = true := by
  simp only [lcmp, orZ, befL, Bool.or_eq_true, Bool.and_eq_true, beq_iff_eq, decide_eq_true_eq, ByteArray.toList_eq]
  by_cases h : compareBytes a.partner.data.toList b.partner.data.toList = 0
  · rw [if_pos h]
    have e := (cb_zero _ _).1 h
    rw [e]
    simp only [bl_irrefl, Bool.false_eq_true, true_and, false_or]
    by_cases h2 : compareBytes a.ref.data.toList b.ref.data.toList = 0
    · rw [if_pos h2]
      have e2 := (cb_zero _ _).1 h2
      rw [e2]
      simp only [bl_irrefl, Bool.false_eq_true, true_and, false_or, cmpZ]
      split
      · simp; omega
      · split <;> simp [*]
    · rw [if_neg h2, cb_pos]
      have e2 : ¬ b.ref.data.toList = a.ref.data.toList := fun e => h2 ((cb_zero _ _).2 e.symm)
      simp [e2]
  · rw [if_neg h, cb_pos]
    have e : ¬ b.partner.data.toList = a.partner.data.toList := fun e => h ((cb_zero _ _).2 e.symm)
    simp [e]
theorem lcmp_zero (a b : OLn) : lcmp a b = 0 ↔ keyL a = keyL b := by
  constructor
  · intro h
    refine befL_tri ?_ ?_
    · rw [← Bool.not_eq_true, ← lcmp_neg]; omega
    · rw [← Bool.not_eq_true, ← lcmp_pos]; omega
  · intro h
    have h1 : ¬ lcmp a b < 0 := by rw [lcmp_neg]; intro g; exact befL_key g h
    have h2 : ¬ 0 < lcmp a b := by rw [lcmp_pos]; intro g; exact befL_key g h.symm
    omega
def zeroL : OLn := ⟨⟨#[]⟩, ⟨#[]⟩, 0, ⟨#[]⟩, 0, 0, 0, 0⟩
theorem lcmp_first {c : OLn} (h : nameB c.partner = true) : 0 < lcmp c zeroL := by
  have h1 := (nameB_sizes h).1
  rw [lcmp_pos]
  simp only [befL, zeroL, ByteArray.toList_eq, Bool.or_eq_true]
  refine .inl ?_
  cases hl : c.partner.data.toList with
  | nil =>
    have : c.partner.data.toList.length = 0 := by rw [hl]; rfl
    have e : c.partner.size = c.partner.data.toList.length := by simp
    omega
  | cons x r => simp [Op.bytesLess]
/-- What is asked at place i. -/
structure OkL (rs : List OLn) (i : Nat) (c : OLn) : Prop where
  ok : LnOk c
  rise : ∀ d, 0 < i → rs[i - 1]? = some d → befL d c = true
structure RightL (rs : List OLn) : Prop where
  len : rs.length ≤ 200
  at_ : ∀ i c, rs[i]? = some c → OkL rs i c
open Classical in
noncomputable def lnsB (rs : List OLn) : Bool := decide (RightL rs)
theorem lnsB_yes {rs : List OLn} (h : RightL rs) : lnsB rs = true := by simp [lnsB, h]
theorem lnsB_no {rs : List OLn} (h : ¬ RightL rs) : lnsB rs = false := by simp [lnsB, h]
theorem lnsB_iff {rs : List OLn} : lnsB rs = true ↔ RightL rs := by simp [lnsB]
theorem lnsB_iff' {rs : List OLn} : lnsB rs = false ↔ ¬ RightL rs := by simp [lnsB]
theorem riseL_all {rs : List OLn} : ∀ {k : Nat}, (∀ i c, i ≤ k → rs[i]? = some c → OkL rs i c) → ∀ i d c, i < k → rs[i]? = some d → rs[k]? = some c → befL d c = true
  | 0, _, i, _, _, h, _, _ => by omega
  | k + 1, h, i, d, c, hi, hd, hc => by
    have hk : k < rs.length := by have := (List.getElem?_eq_some_iff.1 hc).1; omega
    have e := List.getElem?_eq_getElem hk
    have h1 := (h (k + 1) c (Nat.le_refl _) hc).rise rs[k] (by omega) e
    rcases Nat.lt_or_ge i k with g | g
    · exact befL_trans (riseL_all (fun i c hi => h i c (by omega)) i d rs[k] g hd e) h1
    · obtain rfl : i = k := by omega
      rw [hd] at e
      cases e
      exact h1
theorem RightL.pair {rs : List OLn} (h : RightL rs) : rs.Pairwise fun a b => befL a b = true := by
  rw [List.pairwise_iff_getElem]
  intro i j hi hj hij
  exact riseL_all (k := j) (fun i c _ hc => h.at_ i c hc) i _ _ hij (List.getElem?_eq_getElem hi) (List.getElem?_eq_getElem hj)
theorem RightL.ok {rs : List OLn} (h : RightL rs) : ∀ c ∈ rs, LnOk c := fun c hc => by
  obtain ⟨i, hi⟩ := List.mem_iff_getElem?.1 hc
  exact (h.at_ i c hi).ok
theorem RightL.of_pair {rs : List OLn} (hl : rs.length ≤ 200) (ho : ∀ c ∈ rs, LnOk c) (hp : rs.Pairwise fun a b => befL a b = true) : RightL rs := by
  rw [List.pairwise_iff_getElem] at hp
  refine ⟨hl, fun i c hc => ?_⟩
  obtain ⟨hi, e⟩ := List.getElem?_eq_some_iff.1 hc
  refine ⟨ho c (List.mem_of_getElem? hc), fun d h0 hd => ?_⟩
  obtain ⟨hi', e'⟩ := List.getElem?_eq_some_iff.1 hd
  have := hp (i - 1) i hi' hi (by omega)
  rwa [e, e'] at this
/-- What is open of a line, and in transit. -/
noncomputable def opnT (l : OLn) : Int := if lnB l = true then l.ordered - l.sent - l.cut else 0
noncomputable def trnT (l : OLn) : Int := if lnB l = true then l.sent - l.got else 0
theorem opnT_yes {l : OLn} (h : LnOk l) : opnT l = l.ordered - l.sent - l.cut := if_pos (lnB_yes h)
theorem trnT_yes {l : OLn} (h : LnOk l) : trnT l = l.sent - l.got := if_pos (lnB_yes h)
theorem opnT_no {l : OLn} (h : ¬ LnOk l) : opnT l = 0 := if_neg (by simp [lnB_no h])
theorem trnT_no {l : OLn} (h : ¬ LnOk l) : trnT l = 0 := if_neg (by simp [lnB_no h])
end Go.Proofs.YtkgkahlhekecmaaGreat
