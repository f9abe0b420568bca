/- Texts of ours put together: HxS. -/
import Derived.Test.YtibjmokhkjklkaaDoorG03
import Derived.Laws.AppendOwn
import Derived.Laws.IdiomStrings
import Derived.Deep.RegionHeld3
import Derived.Deep.RegionLaw
import Derived.Deep.AppendLies
namespace Go.Proofs.YtibjmokhkjklkaaDoor
open Go.ChangeShapes Go.WideShapes Go.ChangeAt Go.RowKit
theorem infoU8s : (Tryd.prog.info? 5).map (fun i => (i.zero, i.size, i.bytes)) = some (some (.int .u8 0), 1, 1) := by kernel_rfl
theorem dig_at (m : Nat) (hm : m < 16) : ∀ h, (((⟨#[48, 49, 50, 51, 52, 53, 54, 55, 56, 57, 97, 98, 99, 100, 101, 102]⟩ : ByteArray)[m]'h).toNat : Int) = hexD m := by
  intro h
  match m, hm with
  | 0, _ => rfl
  | 1, _ => rfl
  | 2, _ => rfl
  | 3, _ => rfl
  | 4, _ => rfl
  | 5, _ => rfl
  | 6, _ => rfl
  | 7, _ => rfl
  | 8, _ => rfl
  | 9, _ => rfl
  | 10, _ => rfl
  | 11, _ => rfl
  | 12, _ => rfl
  | 13, _ => rfl
  | 14, _ => rfl
  | 15, _ => rfl
  | n + 16, h => exact absurd h (by omega)
theorem conv_rowH {W : World} {n₀ : Nat} {v : Value} {xs : List Int} (h : W.ownsRow n₀ 5 1 v xs.length (xs.map (Value.int .u8))) : (convert 60 9 v).run Tryd.prog W = .ok (.string (strOfNums xs)) W := by
  rcases h.2 with ⟨rfl, e⟩ | ⟨g, cap, cur, rfl, _, hgb, _, _, hcs, htk⟩
  · have : xs = [] := List.length_eq_zero_iff.1 e
    subst this
    exact run_convert_bytes_nil W 60 5 Tryd.underlying60 Tryd.underlying5 0 0 9 Tryd.underlying9
  · refine run_convert_bytes_arg W 60 5 Tryd.underlying60 Tryd.underlying5 g 0 xs.length cap xs rfl (fun i hi => ?_) 9 Tryd.underlying9
    have h1 : (cur.toList.take (xs.length * 1))[i]? = (xs.map (Value.int .u8))[i]? := by rw [htk]
    rw [List.getElem?_take_of_lt (by omega)] at h1
    simp [World.cell?, hgb, List.getElem?_eq_getElem hi] at h1 ⊢
    rw [h1]
theorem strH (l : List UInt8) : strOfNums (hexZ l) = ⟨(hexB l).toArray⟩ := rfl
theorem bx2u {W : World} {b t : Nat} {x0 x1 : Value} (h : W.heap[b]? = some (.cells #[x0, x1] t)) : W.cell? ⟨b, 0, none⟩ = some x0 ∧ W.cell? ⟨b, 1, none⟩ = some x1 := by
  refine ⟨?_, ?_⟩ <;> simp [World.cell?, h]
theorem undrewU {a b : World} {o : Option Nat} (h : a.drew.grownBy b o) : a.grownBy b o := ⟨h.os, h.tape, h.output, h.size, h.block⟩
theorem wrap8 {z : Int} (h : 0 ≤ z ∧ z < 256) : IntKind.u8.wrap z = z := by
  have hb : IntKind.u8.bits = 8 := rfl
  have hs : IntKind.u8.signed = false := rfl
  simp [IntKind.wrap, hb, hs]
  omega
/-- An append of two bytes, in a drawn region. -/
theorem step_app2 {ops : Array Oper} {o : Oper} {a : Act} {K : Act → World → Prop} {Q : Exit → Act → World → Prop} {E : Prop} {W : World} {base c C : Nat} {lv : Value} {zs : List Int} {x y : Int} (hw : Region.wanted o (yielded ops a.tmps) = true) (s r : Operand)
    (ho : o.op = .call { callee := .builtin .append, args := #[s, r], argTypes := #[60, 60] })
    (hs' : a.eval s = lv) (hx : a.eval r = .slice (some ⟨c, 0, none⟩) 2 C) (h : W.ownsRow base 5 1 lv zs.length (zs.map (Value.int .u8))) (hg : W.cell? ⟨c, 0, none⟩ = some (.int .u8 x) ∧ W.cell? ⟨c, 1, none⟩ = some (.int .u8 y))
    (hl : zs.length + 2 ≤ 2000000) (hbase : base ≤ W.heap.size)
    (k : ∀ v w', w'.ownsRow base 5 1 v (zs ++ [x, y]).length ((zs ++ [x, y]).map (Value.int .u8)) → W.grownBy w' lv.ownBlock → K (a.put o.dst v) w') : if Region.wanted o (yielded ops a.tmps) = true then o.wp Tryd.prog a W K Q else E := by
  rw [if_pos hw]
  obtain ⟨i0, hi, hz0, hz1, hz2⟩ := info_parts infoU8s
  obtain ⟨q0, q1⟩ := hg
  refine wp_append_lies W s r 60 ho base 5 i0 (.int .u8 0) 1 1 Tryd.underlying60 hi hz0 hz1 hz2 rfl (by decide) lv zs.length (zs.map (Value.int .u8)) hs' h ⟨c, 0, none⟩ 2 C [.int .u8 x, .int .u8 y] hx rfl (fun j u hu => ?_) (fun u hu => ?_) (by decide) (by unfold maxLen; omega) (by omega) hbase _ rfl ?_
  · have hj := (List.getElem?_eq_some_iff.1 hu).1
    have hj3 : j < 2 := hj
    rw [fl_addr]
    match j, hj3 with
    | 0, _ =>
      cases hu
      simpa using q0
    | 1, _ =>
      cases hu
      simpa using q1
  · simp only [List.mem_cons, List.not_mem_nil, or_false] at hu
    rcases hu with rfl | rfl <;> rfl
  · intro gg cap w' hown hgrow _ _
    have e1 : (zs ++ [x, y]).length = zs.length + 2 := by simp
    refine k _ w' ?_ hgrow
    rw [e1, List.map_append]
    exact hown
set_option maxRecDepth 100000 in
set_option maxHeartbeats 4000000 in
theorem hex_spec (t : ByteArray) (w : World) : Calls Tryd.prog 36 #[.string t] w fun e w' => e = .returned (.string (hexT t)) ∧ Below w.heap.size w w' := by
  by_cases h4 : 4000 < t.size
  · have h4' : (t.size : Int) > 4000 := by omega
    have HE : Hid (hexT t = ⟨#[]⟩) := by show hexT t = _; unfold hexT; rw [if_pos h4]
    go_enter Tryd.func36, Tryd.ntmps36
    go_wp2
    go_ret
    exact ⟨by rw [HE.out]; rfl, Below.refl _ _⟩
  have h4' : ¬ (t.size : Int) > 4000 := by omega
  have HE : Hid (hexT t = ⟨(hexB t.data.toList).toArray⟩) := by show hexT t = _; unfold hexT; rw [if_neg h4]
  go_enter Tryd.func36, Tryd.ntmps36
  go_wp2
  go_loopw [3, 4] (fun b i wr => ∃ k : Nat, i = .int .i64 (k : Int) ∧ k ≤ t.size ∧ wr.ownsRow w.heap.size 5 1 b (hexZ (t.data.toList.take k)).length ((hexZ (t.data.toList.take k)).map (Value.int .u8)) ∧ Below w.heap.size w wr) (fun _ i _ => t.size - (intOf i).toNat)
  case atStart => exact ⟨0, rfl, by omega, ⟨rfl, .inr ⟨_, 0, #[], rfl, Nat.le_refl _, World.alloc_heap_new _ _, Nat.le_refl _, Nat.zero_le _, rfl, rfl⟩⟩, (Below.refl _ _).alloc (Nat.le_refl _) _⟩
  case round =>
    obtain ⟨k, rfl, hk, ho, hb⟩ := hrel
    by_cases hlt : k < t.size
    · have hlt' : (k : Int) < (t.size : Int) := by omega
      have HI : Hid (Below w.heap.size w wr) := hb
      clear hb
      obtain ⟨i0, hi, hz0, hz1, hz2⟩ := info_parts infoU8s
      obtain ⟨n, hn⟩ : ∃ n, n = (t[k]'hlt).toNat := ⟨_, rfl⟩
      have hnl : n < 256 := by rw [hn]; exact (t[k]'hlt).toNat_lt
      have HN : Hid (n = (t[k]'hlt).toNat) := hn
      obtain ⟨m1, h1⟩ : ∃ m, m = n / 16 := ⟨_, rfl⟩
      obtain ⟨m2, h2⟩ : ∃ m, m = n % 16 := ⟨_, rfl⟩
      have HM : Hid (m1 = n / 16 ∧ m2 = n % 16) := ⟨h1, h2⟩
      have w1 : IntKind.u8.wrap ((n : Int) / 16) = (m1 : Int) := by rw [wrap8 (by omega)]; omega
      have w2 : (n : Int).tmod 16 = (m2 : Int) := by
        rw [Int.tmod_eq_emod_of_nonneg (by omega)]
        omega
      have l1 : (m1 : Int) < 16 := by omega
      have l2 : (m2 : Int) < 16 := by omega
      have d1 := dig_at m1 (by omega)
      have d2 := dig_at m2 (by omega)
      have hn' := hn.symm
      have HO : Hid (∀ o, (wr.alloc o).drew.ownsRow w.heap.size 5 1 u3 (hexZ (t.data.toList.take k)).length ((hexZ (t.data.toList.take k)).map (Value.int .u8))) := fun o => ho.alloc o
      have hzl : (hexZ (t.data.toList.take k)).length + 2 ≤ 2000000 := by
        rw [hexZ_len, List.length_take]
        omega
      have HO2 : Hid (∀ o, (wr.drew.alloc o).ownsRow w.heap.size 5 1 u3 (hexZ (t.data.toList.take k)).length ((hexZ (t.data.toList.take k)).map (Value.int .u8))) := fun o => World.ownsRow.alloc (w := wr.drew) ho o
      have HC : Hid (∀ x y, (wr.alloc (.cells #[x, y] 5)).drew.cell? ⟨wr.heap.size, 0, none⟩ = some x ∧ (wr.alloc (.cells #[x, y] 5)).drew.cell? ⟨wr.heap.size, 1, none⟩ = some y) := fun x y => bx2u (World.alloc_heap_new wr _)
      have HC2 : Hid (∀ x y, (wr.drew.alloc (.cells #[x, y] 5)).cell? ⟨wr.heap.size, 0, none⟩ = some x ∧ (wr.drew.alloc (.cells #[x, y] 5)).cell? ⟨wr.heap.size, 1, none⟩ = some y) := fun x y => bx2u (World.alloc_heap_new wr.drew _)
      have HG : Hid (∀ o w7, (wr.alloc o).grownBy w7 u3.ownBlock → Below w.heap.size w w7) := fun o w7 hg => by
        have h1 := HI.out.alloc HI.out.size o
        exact h1.grown hg (by have := HI.out.size; simp; omega) (fun k hk => (ho.lt k hk).1)
      have hws := HI.out.size
      clear hn h1 h2 ho
      go_wp2
      go_region_law (first | (refine step_app2 (base := w.heap.size) (lv := u3) (zs := hexZ (t.data.toList.take k)) (c := wr.heap.size) (x := hexD m1) (y := hexD m2) (by rfl) _ _ (by rfl) (by rfl) (by rfl) (by with_reducible first | exact HO.out _ | exact HO2.out _) (by with_reducible first | exact HC.out _ _ | exact HC2.out _ _) hzl (by simp; omega) ?_; intro v w7 ho7 hg7; have H7 : Hid (w7.ownsRow w.heap.size 5 1 v (hexZ (t.data.toList.take k) ++ [hexD m1, hexD m2]).length ((hexZ (t.data.toList.take k) ++ [hexD m1, hexD m2]).map (Value.int .u8)) ∧ Below w.heap.size w w7) := ⟨ho7, HG.out _ _ (by with_reducible first | exact hg7 | exact undrewU hg7)⟩; clear ho7 hg7) | fail)
      all_goals (
        have H8 : Hid (w7.ownsRow w.heap.size 5 1 v (hexZ (t.data.toList.take (k + 1))).length ((hexZ (t.data.toList.take (k + 1))).map (Value.int .u8)) ∧ Below w.heap.size w w7) := by
          have e : hexZ (t.data.toList.take (k + 1)) = hexZ (t.data.toList.take k) ++ [hexD m1, hexD m2] := by
            have hx : t.data.toList[k]? = some (t[k]'hlt) := by
              rw [List.getElem?_eq_getElem (by exact hlt)]
              rfl
            rw [List.take_add_one, hx, hexZ_app, HM.out.1, HM.out.2, HN.out]
            rfl
          rw [e]
          exact H7.out
        clear H7 HO HO2 HC HC2 HG d1 d2 w1 w2 hn'
        try dsimp only
        go_wp2
        go_roundw
        case rel => exact ⟨k + 1, by go_num, by omega, H8.out⟩
        case measure => simp [intOf]; omega)
    · obtain rfl : k = t.size := by omega
      have HI : Hid (Below w.heap.size w wr) := hb
      rw [show t.data.toList.take t.size = t.data.toList from List.take_of_length_le (Nat.le_refl _)] at ho
      have hcv := conv_rowH ho
      rw [strH] at hcv
      clear ho hb
      go_wp2
      go_ret
      exact ⟨by rw [HE.out]; rfl, HI.out⟩
end Go.Proofs.YtibjmokhkjklkaaDoor
