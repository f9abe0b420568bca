/- Contract of the model's ThreeOrder. -/
import Derived.Test.YtnaidbpkllmeoaaThF
import Derived.Test.YtnaidbpkllmeoaaThS
import Derived.Test.YtnaidbpkllmeoaaLnB
namespace Go.Proofs.Ytnaidbpkllmeoaa
open Go.ChangeShapes Go.WideShapes Go.ChangeAt Go.RowKit
theorem alkT_snocS {z0 : Int} {ls : List OLn} {c : OLn} : alkT z0 (ls ++ [c]) = (alkT z0 ls && decide (stT c = z0)) := by simp [alkT]
theorem clsT_snocS {ls : List OLn} {c : OLn} : clsT (ls ++ [c]) = (clsT ls && clZ (stT c)) := by simp [clsT]
theorem take_snocS {ls : List OLn} {k : Nat} {c : OLn} (h : ls[k]? = some c) : ls.take (k + 1) = ls.take k ++ [c] := by
  rw [List.take_add_one, h]
  rfl
/-- What the model keeps while it goes: where the first one stands, whether all do, whether all are over. -/
structure OrS where
  f : Int
  s : Bool
  o : Bool
noncomputable def stO (x : OrS) (z : Int) : OrS := if x.f = 0 then ⟨z, x.s && decide (z = z), x.o && clZ z⟩ else ⟨x.f, x.s && decide (z = x.f), x.o && clZ z⟩
noncomputable def orS (p r : ByteArray) (ls : List OLn) : OrS := ls.foldl (fun x c => if ofR p r c = true then stO x (stT c) else x) ⟨0, true, true⟩
theorem orS_snoc {p r : ByteArray} {ls : List OLn} {c : OLn} : orS p r (ls ++ [c]) = if ofR p r c = true then stO (orS p r ls) (stT c) else orS p r ls := by simp [orS]
theorem orS_is (p r : ByteArray) : ∀ (n : Nat) (ls : List OLn), ls.length = n → (∀ c ∈ ls, LnOk c) → orS p r ls = ⟨fstT (ls.filter (ofR p r)), alkT (fstT (ls.filter (ofR p r))) (ls.filter (ofR p r)), clsT (ls.filter (ofR p r))⟩
  | 0, ls, hl, _ => by
    obtain rfl := List.length_eq_zero_iff.1 hl
    rfl
  | n + 1, ls', hl, hok => by
    have hne : ls' ≠ [] := fun e => by rw [e] at hl; simp at hl
    obtain ⟨ls, c, rfl⟩ : ∃ l c, ls' = l ++ [c] := ⟨ls'.dropLast, ls'.getLast hne, (List.dropLast_concat_getLast hne).symm⟩
    have ih := orS_is p r n ls (by simpa using hl)
    have ih := ih fun x hx => hok x (List.mem_append_left _ hx)
    have hc := stT_pos (hok c (by simp))
    rw [orS_snoc, ih]
    cases hm : ofR p r c with
    | false => simp [List.filter_append, hm]
    | true =>
      rw [if_pos rfl, List.filter_append, List.filter_cons_of_pos hm, List.filter_nil, alkT_snocS, clsT_snocS]
      cases hf : ls.filter (ofR p r) with
      | nil => simp [stO, fstT, alkT, clsT]
      | cons d l =>
        have hd : d ∈ ls := by
          have : d ∈ ls.filter (ofR p r) := by rw [hf]; exact List.mem_cons_self
          exact (List.mem_filter.1 this).1
        have hdp := stT_pos (hok d (List.mem_append_left _ hd))
        have h0 : ¬ stT d = 0 := by omega
        simp [stO, fstT, h0]
        exact congrArg _ (decide_eq_decide.2 Iff.rfl)
set_option maxHeartbeats 8000000 in
theorem threeOrder_spec (A : Option Addr) (C : Nat) (rs : List OLn) (p r : ByteArray) (w : World) (h : RowOl w (.slice A rs.length C) rs) (hp : p.size ≤ 1048576) (hr : r.size ≤ 1048576) :
    Calls Try.prog 18 #[.slice A rs.length C, .string p, .string r] w fun e w' => e = .returned (.int .i64 (ordT rs p r)) ∧ Below w.heap.size w w' := by
  have hlen := h.len
  obtain ⟨t, ht⟩ : ∃ t, t = ordT rs p r := ⟨_, rfl⟩
  rw [← ht]
  have HT : Hid (t = ordT rs p r) := ht
  have H0 : Hid (RowOl w (.slice A rs.length C) rs) := h
  clear h ht
  go_enter Try.func18, Try.ntmps18
  by_cases hp1 : 20000 < p.size
  · have hp1' : (20000 : Int) < (p.size : Int) := by omega
    have HS : Hid (t = 0) := by show t = 0; rw [HT.out, ordT, if_neg (by omega)]
    go_wp2
    go_ret
    exact ⟨by rw [HS.out]; rfl, Below.refl _ _⟩
  have hp1' : ¬ (20000 : Int) < (p.size : Int) := by omega
  by_cases hr1 : 20000 < r.size
  · have hr1' : (20000 : Int) < (r.size : Int) := by omega
    have HS : Hid (t = 0) := by show t = 0; rw [HT.out, ordT, if_neg (by omega)]
    go_wp2
    go_ret
    exact ⟨by rw [HS.out]; rfl, Below.refl _ _⟩
  have hr1' : ¬ (20000 : Int) < (r.size : Int) := by omega
  go_wp2_with fail
  refine (linesRight_spec _ rs _ H0.out).mono ?_
  rintro e w2 ⟨rfl, hb2⟩
  have H2 : Hid (Below w.heap.size w w2) := hb2
  clear hb2
  cases hx : lnsB rs with
  | false =>
    have HS : Hid (t = 0) := by show t = 0; rw [HT.out, ordT, if_neg (by simp [hx])]
    clear hx
    go_wp2
    go_ret
    exact ⟨by rw [HS.out]; rfl, H2.out⟩
  | true =>
    have HN : Hid (RightL rs ∧ t = if rs.filter (ofR p r) = [] then 0 else allT (rs.filter (ofR p r))) := ⟨lnsB_iff.1 hx, by rw [HT.out, ordT, if_pos ⟨by omega, by omega, hx⟩]⟩
    clear hx
    obtain ⟨ok, hrest⟩ := HN.out
    have HO : Hid ((∀ c ∈ rs, LnOk c) ∧ ∀ k, orS p r (rs.take k) = ⟨fstT ((rs.take k).filter (ofR p r)), alkT (fstT ((rs.take k).filter (ofR p r))) ((rs.take k).filter (ofR p r)), clsT ((rs.take k).filter (ofR p r))⟩) := ⟨ok.ok, fun k => orS_is p r _ _ rfl fun c hc => ok.ok c (List.mem_of_mem_take hc)⟩
    have hln := ok.len
    clear ok hrest
    go_wp2_with fail
    go_loopw [7, 8, 9, 10] (fun a b c i wr => ∃ k : Nat, i = .int .i64 (k : Int) ∧ k ≤ rs.length ∧ a = .int .i64 (orS p r (rs.take k)).f ∧ b = .bool (orS p r (rs.take k)).s ∧ c = .bool (orS p r (rs.take k)).o ∧ Hid (Below w.heap.size w wr)) (fun _ _ _ i _ => rs.length - (intOf i).toNat)
    case atStart => exact ⟨0, rfl, by omega, rfl, rfl, rfl, H2.out⟩
    case round =>
      obtain ⟨k, rfl, hk, rfl, rfl, rfl, HW⟩ := hrel
      obtain ⟨y, hy⟩ : ∃ y, y = orS p r (rs.take k) := ⟨_, rfl⟩
      rw [← hy]
      have HY : Hid (y = orS p r (rs.take k)) := hy
      clear hy
      obtain ⟨yf, ys, yo⟩ := y
      dsimp only
      by_cases hlt : k < rs.length
      · have hlt' : (k : Int) < (rs.length : Int) := by omega
        obtain ⟨b', o', cap', c, e, hs, ⟨q0, q1, q2, q3, q4, q5, q6, q7⟩, hsz⟩ := (H0.out.below HW.out).at hlt
        simp only [Value.slice.injEq, true_and] at e
        obtain ⟨rfl, rfl⟩ := e
        obtain ⟨z, hz⟩ : ∃ z, z = stT c := ⟨_, rfl⟩
        have HZ : Hid (orS p r (rs.take (k + 1)) = if ofR p r c = true then stO ⟨yf, ys, yo⟩ z else ⟨yf, ys, yo⟩) := by show _ = _; rw [take_snocS hs, orS_snoc, ← HY.out, ← hz]
        have Q := threeOf_spec c
        rw [← hz] at Q
        clear hz hs hsz
        cases e1 : (c.partner.toList == p.toList) with
        | false =>
          have HE : Hid (orS p r (rs.take (k + 1)) = ⟨yf, ys, yo⟩) := by show _ = _; rw [HZ.out, ofR, e1]; rfl
          go_wp2
          go_roundw
          case rel => exact ⟨k + 1, by go_num, by omega, by rw [HE.out], by rw [HE.out], by rw [HE.out], HW.out⟩
          case measure => simp [intOf]; omega
        | true =>
          cases e2 : (c.ref.toList == r.toList) with
          | false =>
            have HE : Hid (orS p r (rs.take (k + 1)) = ⟨yf, ys, yo⟩) := by show _ = _; rw [HZ.out, ofR, e1, e2]; rfl
            go_wp2
            go_roundw
            case rel => exact ⟨k + 1, by go_num, by omega, by rw [HE.out], by rw [HE.out], by rw [HE.out], HW.out⟩
            case measure => simp [intOf]; omega
          | true =>
            have HE : Hid (orS p r (rs.take (k + 1)) = stO ⟨yf, ys, yo⟩ z) := by show _ = _; rw [HZ.out, ofR, e1, e2]; rfl
            go_wp2_with fail
            refine (Q _).mono ?_
            rintro e w3 ⟨rfl, hb3⟩
            have H3 : Hid (Below w.heap.size w w3) := HW.out.trans (hb3.mono HW.out.size)
            clear hb3 Q q0 q1 q2 q3 q4 q5 q6 q7 e1 e2
            obtain ⟨x, hx⟩ : ∃ x, x = clZ z := ⟨_, rfl⟩
            have hx4 : x = (decide (z = 4) || decide (z = 5)) := by rw [hx, clZ]; exact Bool.decide_or _ _
            clear hx
            have HX : Hid (x = clZ z) := by show _ = _; rw [hx4, clZ]; exact (Bool.decide_or _ _).symm
            have hz3 : z = 4 ∨ z = 5 ∨ (¬ z = 4 ∧ ¬ z = 5) := by omega
            clear hx4
            by_cases hf : yf = 0
            · subst hf
              have HF : Hid (stO ⟨0, ys, yo⟩ z = ⟨z, ys, yo && x⟩) := by show _ = _; rw [HX.out]; simp [stO]
              rcases hz3 with rfl | rfl | ⟨h4, h5⟩ <;> cases ys <;> cases yo
              all_goals go_wp2
              all_goals go_roundw
              all_goals first | (case' rel => exact ⟨k + 1, by go_num, by omega, by rw [HE.out, HF.out], by rw [HE.out, HF.out], by rw [HE.out, HF.out, HX.out]; first | rfl | (simp [clZ, h4, h5]; done), H3.out⟩) | skip
              all_goals simp [intOf]; omega
            · have HF : Hid (stO ⟨yf, ys, yo⟩ z = ⟨yf, ys && decide (z = yf), yo && x⟩) := by show _ = _; rw [HX.out]; simp [stO, hf]
              by_cases hzf : z = yf
              · subst hzf
                rcases hz3 with rfl | rfl | ⟨h4, h5⟩ <;> cases ys <;> cases yo
                all_goals go_wp2
                all_goals go_roundw
                all_goals first | (case' rel => exact ⟨k + 1, by go_num, by omega, by rw [HE.out, HF.out], by rw [HE.out, HF.out]; first | rfl | (simp; done), by rw [HE.out, HF.out, HX.out]; first | rfl | (simp [clZ, h4, h5]; done), H3.out⟩) | skip
                all_goals simp [intOf]; omega
              · rcases hz3 with rfl | rfl | ⟨h4, h5⟩ <;> cases ys <;> cases yo
                all_goals go_wp2
                all_goals go_roundw
                all_goals first | (case' rel => exact ⟨k + 1, by go_num, by omega, by rw [HE.out, HF.out], by rw [HE.out, HF.out]; first | rfl | (simp [hzf]; done), by rw [HE.out, HF.out, HX.out]; first | rfl | (simp [clZ, h4, h5]; done), H3.out⟩) | skip
                all_goals simp [intOf]; omega
      · obtain rfl : k = rs.length := by omega
        have HV : Hid ((⟨yf, ys, yo⟩ : OrS) = ⟨fstT (rs.filter (ofR p r)), alkT (fstT (rs.filter (ofR p r))) (rs.filter (ofR p r)), clsT (rs.filter (ofR p r))⟩ ∧ (rs.filter (ofR p r) ≠ [] → 1 ≤ fstT (rs.filter (ofR p r)))) := by
          refine ⟨?_, fun hne => ?_⟩
          · have h1 := HO.out.2 rs.length
            rw [← HY.out, List.take_length] at h1
            exact h1
          · cases hf : rs.filter (ofR p r) with
            | nil => exact absurd hf hne
            | cons d l =>
              have : d ∈ rs.filter (ofR p r) := by rw [hf]; exact List.mem_cons_self
              exact (stT_pos (HO.out.1 d (List.mem_filter.1 this).1)).1
        have HTT : Hid (t = if yf = 0 then 0 else if ys = true then yf else if yo = true then 4 else 2) := by
          show t = _
          rw [HN.out.2]
          have h1 := HV.out.1
          simp only [OrS.mk.injEq] at h1
          rw [h1.1, h1.2.1, h1.2.2]
          by_cases hne : rs.filter (ofR p r) = []
          · rw [if_pos hne, hne]
            rfl
          · have := HV.out.2 hne
            rw [if_neg hne, if_neg (by omega)]
            rfl
        clear HV HY
        by_cases hf : yf = 0
        · have HS : Hid (t = yf) := by show t = _; rw [HTT.out, if_pos hf, hf]
          go_wp2
          go_ret
          exact ⟨by rw [HS.out]; rfl, HW.out⟩
        · cases ys with
          | true =>
            have HS : Hid (t = yf) := by show t = _; rw [HTT.out, if_neg hf, if_pos rfl]
            go_wp2
            go_ret
            exact ⟨by rw [HS.out]; rfl, HW.out⟩
          | false =>
            cases yo with
            | true =>
              have HS : Hid (t = 4) := by show t = _; rw [HTT.out, if_neg hf]; rfl
              go_wp2
              go_ret
              exact ⟨by rw [HS.out]; rfl, HW.out⟩
            | false =>
              have HS : Hid (t = 2) := by show t = _; rw [HTT.out, if_neg hf]; rfl
              go_wp2
              go_ret
              exact ⟨by rw [HS.out]; rfl, HW.out⟩
theorem threeOrder_specV (v : Value) (rs : List OLn) (p r : ByteArray) (w : World) (h : RowOl w v rs) (hp : p.size ≤ 1048576) (hr : r.size ≤ 1048576) :
    Calls Try.prog 18 #[v, .string p, .string r] w fun e w' => e = .returned (.int .i64 (ordT rs p r)) ∧ Below w.heap.size w w' := by
  obtain ⟨A, C, rfl⟩ := h.val
  exact threeOrder_spec A C rs p r w h hp hr
end Go.Proofs.Ytnaidbpkllmeoaa
