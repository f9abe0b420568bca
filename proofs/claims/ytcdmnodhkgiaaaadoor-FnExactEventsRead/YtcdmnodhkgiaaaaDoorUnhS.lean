/- Contract of the model's l16Unhex. -/
import Derived.Test.YtcdmnodhkgiaaaaDoorErP
import Derived.Test.YtcdmnodhkgiaaaaDoorHxS
namespace Go.Proofs.YtcdmnodhkgiaaaaDoor
open Go.ChangeShapes Go.WideShapes Go.ChangeAt Go.RowKit
/-- An append of one byte, at the list of a plain region's operations. -/
theorem wpList_app1 {ops : Array Oper} {rest : List Oper} {o : Oper} {a : Act} {Q : Exit → Act → World → Prop} {W : World} {base c C : Nat} {lv : Value} {zs : List Int} {z : Int} (hgd : o.guard = none) (s x : Operand)
    (ho : o.op = .call { callee := .builtin .append, args := #[s, x], argTypes := #[85, 85] })
    (hs' : a.eval s = lv) (hx : a.eval x = .slice (some ⟨c, 0, none⟩) 1 C) (h : W.ownsRow base 5 1 lv zs.length (zs.map (Value.int .u8))) (hg : W.cell? ⟨c, 0, none⟩ = some (.int .u8 z)) (hl : zs.length + 1 ≤ 2000000) (hbase : base ≤ W.heap.size)
    (k : ∀ v' w', w'.ownsRow base 5 1 v' (zs.length + 1) ((zs ++ [z]).map (Value.int .u8)) → W.grownBy w' lv.ownBlock → wpList Tryd.prog ops Q rest (a.put o.dst v') w') : wpList Tryd.prog ops Q (o :: rest) a W := by
  obtain ⟨i0, hi, hz0, hz1, hz2⟩ := info_parts infoU8s
  refine wpList_append_own W hgd s x 85 ho base 5 i0 (.int .u8 0) 1 1 Tryd.underlying85 hi hz0 hz1 hz2 rfl (by decide) lv zs.length (zs.map (Value.int .u8)) hs' h ⟨c, 0, none⟩ 1 C [.int .u8 z] hx rfl (fun j u hu => ?_) (fun u hu => ?_) (by unfold maxLen; omega) (by omega) hbase ?_
  · have hj := (List.getElem?_eq_some_iff.1 hu).1
    have hj1 : j < 1 := hj
    obtain rfl : j = 0 := by omega
    simp only [List.getElem?_cons_zero, Option.some.injEq] at hu
    subst hu
    rw [fl_addr]
    exact hg
  · rw [List.mem_singleton.1 hu]
    rfl
  · intro v' w' hown hgrow _
    refine k v' w' ?_ hgrow
    rw [List.map_append]
    exact hown
set_option maxRecDepth 100000 in
theorem valD_all : ∀ n : Fin 256, valD (n.1 : Int) = if 48 ≤ n.1 ∧ n.1 ≤ 57 then some (n.1 - 48) else if 97 ≤ n.1 ∧ n.1 ≤ 102 then some (n.1 - 87) else none := by decide
theorem valB_all (x : UInt8) : valB x = if 48 ≤ x.toNat ∧ x.toNat ≤ 57 then some (x.toNat - 48) else if 97 ≤ x.toNat ∧ x.toNat ≤ 102 then some (x.toNat - 87) else none := valD_all ⟨x.toNat, x.toNat_lt⟩
/-- The value of so many digits. -/
def vK (a b : UInt8) (k : Nat) : Nat := if k = 0 then 0 else if k = 1 then (valB a).getD 0 else 16 * ((valB a).getD 0) + (valB b).getD 0
theorem allX_app (l m : List UInt8) : allX (l ++ m) = (allX l && allX m) := by simp [allX]
theorem unX_none {t : ByteArray} (h : t ≠ ⟨#[45]⟩) (hn : ¬ (0 < t.size ∧ t.size % 2 = 0 ∧ allX t.data.toList = true)) : unX t = none := (if_neg h).trans (if_neg hn)
theorem take_two {t : ByteArray} {p : Nat} (h : p + 1 < t.size) : t.data.toList.take (p + 2) = t.data.toList.take p ++ [t[p]'(by omega)] ++ [t[p + 1]'h] := by
  have e0 : t.data.toList[p]? = some (t[p]'(by omega)) := by rw [List.getElem?_eq_getElem (by show p < t.size; omega)]; rfl
  have e1 : t.data.toList[p + 1]? = some (t[p + 1]'h) := by rw [List.getElem?_eq_getElem (by exact h)]; rfl
  rw [List.take_add_one, List.take_add_one, e0, e1]
  rfl
set_option maxRecDepth 100000 in
set_option maxHeartbeats 4000000 in
theorem unhex_spec (t : ByteArray) (ht : t.size ≤ 20000) (w : World) : Calls Tryd.prog 45 #[.string t] w fun e w' => ∃ s, e = .returned (.tuple #[.string s, .bool (unX t).isSome]) ∧ (∀ a, unX t = some a → s = a) ∧ Below w.heap.size w w' := by
  by_cases h45 : t = ⟨#[45]⟩
  · subst h45
    go_enter Tryd.func45, Tryd.ntmps45
    go_wp2
    refine bodyPost_ret (v := .tuple #[.string ⟨#[]⟩, .bool true]) (by simp [results, Tryd.results45, go_sem]; try rfl) rfl ?_
    exact ⟨⟨#[]⟩, rfl, fun a h => (Option.some.inj h), Below.refl _ _⟩
  have n3 : t.toList ≠ [45] := fun e => h45 (by rw [ByteArray.toList_eq] at e; exact ByteArray.ext (Array.toList_inj.1 e))
  have n4 : (t.toList == [45]) = false := by rw [beq_eq_false_iff_ne]; exact n3
  have HN : Hid (¬ (0 < t.size ∧ t.size % 2 = 0 ∧ allX t.data.toList = true) → unX t = none) := unX_none h45
  have HY : Hid ((0 < t.size ∧ t.size % 2 = 0 ∧ allX t.data.toList = true) → unX t = some ⟨(decB t.data.toList).toArray⟩) := fun h => (if_neg h45).trans (if_pos h)
  obtain ⟨W0, hW0⟩ : ∃ W0, w.alloc (.cells #[] 5) = W0 := ⟨_, rfl⟩
  have H0 : Hid (W0.ownsRow w.heap.size 5 1 (.slice (some ⟨w.heap.size, 0, none⟩) 0 0) 0 [] ∧ Below w.heap.size w W0) := by
    show _ ∧ _
    rw [← hW0]
    exact ⟨⟨rfl, .inr ⟨_, 0, #[], rfl, Nat.le_refl _, World.alloc_heap_new _ _, Nat.le_refl _, Nat.zero_le _, rfl, rfl⟩⟩, (Below.refl _ _).alloc (Nat.le_refl _) _⟩
  clear h45
  go_enter Tryd.func45, Tryd.ntmps45
  go_wp2_with fail
  try rw [hW0]
  clear hW0
  go_loopw [4, 5] (fun lv iv wr => ∃ k : Nat, iv = .int .i64 (k : Int) ∧ k ≤ t.size + 1 ∧ k % 2 = 0 ∧ allX (t.data.toList.take k) = true ∧ wr.ownsRow w.heap.size 5 1 lv (decZ (t.data.toList.take k)).length ((decZ (t.data.toList.take k)).map (Value.int .u8)) ∧ Below w.heap.size w wr) (fun _ iv _ => t.size - (intOf iv).toNat)
  case atStart => exact ⟨0, rfl, by omega, rfl, rfl, H0.out⟩
  case round =>
    obtain ⟨k, rfl, hks, hk2, hall, hO, hb⟩ := hrel
    have HI : Hid (wr.ownsRow w.heap.size 5 1 u4 (decZ (t.data.toList.take k)).length ((decZ (t.data.toList.take k)).map (Value.int .u8)) ∧ Below w.heap.size w wr ∧ allX (t.data.toList.take k) = true) := ⟨hO, hb, hall⟩
    clear hO hb hall
    by_cases hlt : k + 1 < t.size
    · have hlt' : (k : Int) + 1 < (t.size : Int) := by omega
      have HT : Hid (t.data.toList.take (k + 2) = t.data.toList.take k ++ [t[k]'(by omega)] ++ [t[k + 1]'hlt]) := take_two hlt
      have HTL : Hid ((t.data.toList.take k).length = k) := by
        show _ = _
        rw [List.length_take]
        have : t.data.toList.length = t.size := rfl
        omega
      obtain ⟨x, hx⟩ : ∃ x, x = t[k]'(by omega) := ⟨_, rfl⟩
      obtain ⟨y, hy⟩ : ∃ y, y = t[k + 1]'hlt := ⟨_, rfl⟩
      rw [← hx, ← hy] at HT
      have HXY : Hid (x = t[k]'(by omega) ∧ y = t[k + 1]'hlt) := ⟨hx, hy⟩
      clear hx hy
      go_wp2_with fail
      go_loopw [6, 7] (fun vv jv wq => ∃ j : Nat, jv = .int .i64 (j : Int) ∧ j ≤ 2 ∧ vv = .int .u8 (vK x y j : Nat) ∧ (0 < j → (valB x).isSome = true) ∧ (1 < j → (valB y).isSome = true) ∧ wq = wr) (fun _ jv _ => 2 - (intOf jv).toNat)
      case atStart => exact ⟨0, rfl, by omega, rfl, fun h => by omega, fun h => by omega, rfl⟩
      case round =>
        obtain ⟨j, rfl, hj, rfl, hv0, hv1, rfl⟩ := hrel
        by_cases hj2 : j < 2
        · have hj2' : (j : Int) < 2 := by omega
          obtain ⟨z, hz⟩ : ∃ z, z = if j = 0 then x else y := ⟨_, rfl⟩
          have hi1 : 0 ≤ (k : Int) + j := by omega
          have hi2 : (k : Int) + j < t.size := by omega
          have hi3 : ((k : Int) + j).toNat = k + j := by omega
          have hkj : k + j < t.size := by omega
          have hzt : (t[k + j]'hkj) = z := by
            rw [hz]
            rcases (by omega : j = 0 ∨ j = 1) with rfl | rfl
            · exact HXY.out.1.symm
            · exact HXY.out.2.symm
          obtain ⟨v, hv⟩ : ∃ v, v = vK x y j := ⟨_, rfl⟩
          have hvl : v < 16 := by
            rw [hv]
            unfold vK
            have := valB_lt x
            rcases (by omega : j = 0 ∨ j = 1) with rfl | rfl
            · simp
            · simpa using this
          have HV : Hid (v = vK x y j ∧ z = (if j = 0 then x else y) ∧ (0 < j → (valB x).isSome = true)) := ⟨hv, hz, hv0⟩
          rw [← hv]
          clear hv hz hv0 hv1
          by_cases h1 : 48 ≤ z.toNat ∧ z.toNat ≤ 57
          · have c1 : (48 : Int) ≤ (z.toNat : Int) := by omega
            have c2 : (z.toNat : Int) ≤ 57 := by omega
            obtain ⟨d, hd⟩ : ∃ d, d = z.toNat - 48 := ⟨_, rfl⟩
            have hdl : d < 16 := by omega
            have w1 : IntKind.u8.wrap ((z.toNat : Int) - 48) = (d : Int) := by rw [wrap8 (by omega)]; omega
            have HD : Hid (valB z = some d) := by
              show valB z = _
              rw [valB_all, if_pos h1]
              exact congrArg some (by omega)
            have HS : Hid (vK x y (j + 1) = 16 * v + d) := by
              show _ = _
              rw [HV.out.1]
              rcases (by omega : j = 0 ∨ j = 1) with rfl | rfl
              · have e := HV.out.2.1
                rw [if_pos rfl] at e
                rw [e] at HD
                simp only [vK]
                simp [HD.out]
              · have e := HV.out.2.1
                rw [if_neg (by omega)] at e
                rw [e] at HD
                simp only [vK]
                simp [HD.out]
            have HV1 : Hid ((0 < j + 1 → (valB x).isSome = true) ∧ (1 < j + 1 → (valB y).isSome = true)) := by
              rcases (by omega : j = 0 ∨ j = 1) with rfl | rfl
              · have e := HV.out.2.1
                rw [if_pos rfl] at e
                rw [e] at HD
                exact ⟨fun _ => by rw [HD.out]; rfl, fun h => by omega⟩
              · have e := HV.out.2.1
                rw [if_neg (by omega)] at e
                rw [e] at HD
                exact ⟨fun _ => HV.out.2.2 (by omega), fun _ => by rw [HD.out]; rfl⟩
            obtain ⟨m, hm⟩ : ∃ m, m = 16 * v := ⟨_, rfl⟩
            obtain ⟨q, hq⟩ : ∃ q, q = m + d := ⟨_, rfl⟩
            have w2 : IntKind.u8.wrap (16 * (v : Int)) = (m : Int) := by rw [wrap8 (by omega)]; omega
            have w3 : IntKind.u8.wrap ((m : Int) + (d : Int)) = (q : Int) := by rw [wrap8 (by omega)]; omega
            have HQ : Hid (q = vK x y (j + 1)) := by
              show q = _
              rw [HS.out, hq, hm]
            clear hm hq hd
            go_wp2
            go_roundw
            case rel => exact ⟨j + 1, by go_num, by omega, by rw [HQ.out], HV1.out.1, HV1.out.2, trivial⟩
            case measure => simp [intOf]; omega
          by_cases h2 : 97 ≤ z.toNat ∧ z.toNat ≤ 102
          · have c1 : (48 : Int) ≤ (z.toNat : Int) := by omega
            have c2 : ¬ (z.toNat : Int) ≤ 57 := by omega
            have c3 : (97 : Int) ≤ (z.toNat : Int) := by omega
            have c4 : (z.toNat : Int) ≤ 102 := by omega
            obtain ⟨d0, hd0⟩ : ∃ d0, d0 = z.toNat - 97 := ⟨_, rfl⟩
            obtain ⟨d, hd⟩ : ∃ d, d = z.toNat - 87 := ⟨_, rfl⟩
            have hdl : d < 16 := by omega
            have w1 : IntKind.u8.wrap ((z.toNat : Int) - 97) = (d0 : Int) := by rw [wrap8 (by omega)]; omega
            have w1b : IntKind.u8.wrap ((d0 : Int) + 10) = (d : Int) := by rw [wrap8 (by omega)]; omega
            clear hd0
            have HD : Hid (valB z = some d) := by
              show valB z = _
              rw [valB_all, if_neg h1, if_pos h2]
              exact congrArg some (by omega)
            have HS : Hid (vK x y (j + 1) = 16 * v + d) := by
              show _ = _
              rw [HV.out.1]
              rcases (by omega : j = 0 ∨ j = 1) with rfl | rfl
              · have e := HV.out.2.1
                rw [if_pos rfl] at e
                rw [e] at HD
                simp only [vK]
                simp [HD.out]
              · have e := HV.out.2.1
                rw [if_neg (by omega)] at e
                rw [e] at HD
                simp only [vK]
                simp [HD.out]
            have HV1 : Hid ((0 < j + 1 → (valB x).isSome = true) ∧ (1 < j + 1 → (valB y).isSome = true)) := by
              rcases (by omega : j = 0 ∨ j = 1) with rfl | rfl
              · have e := HV.out.2.1
                rw [if_pos rfl] at e
                rw [e] at HD
                exact ⟨fun _ => by rw [HD.out]; rfl, fun h => by omega⟩
              · have e := HV.out.2.1
                rw [if_neg (by omega)] at e
                rw [e] at HD
                exact ⟨fun _ => HV.out.2.2 (by omega), fun _ => by rw [HD.out]; rfl⟩
            obtain ⟨m, hm⟩ : ∃ m, m = 16 * v := ⟨_, rfl⟩
            obtain ⟨q, hq⟩ : ∃ q, q = m + d := ⟨_, rfl⟩
            have w2 : IntKind.u8.wrap (16 * (v : Int)) = (m : Int) := by rw [wrap8 (by omega)]; omega
            have w3 : IntKind.u8.wrap ((m : Int) + (d : Int)) = (q : Int) := by rw [wrap8 (by omega)]; omega
            have HQ : Hid (q = vK x y (j + 1)) := by
              show q = _
              rw [HS.out, hq, hm]
            clear hm hq hd
            go_wp2
            go_roundw
            case rel => exact ⟨j + 1, by go_num, by omega, by rw [HQ.out], HV1.out.1, HV1.out.2, trivial⟩
            case measure => simp [intOf]; omega
          have HX : Hid (valB z = none) := by
            show _ = _
            rw [valB_all, if_neg h1, if_neg h2]
          have hmem : z ∈ t.data.toList := by
            rw [← hzt]
            exact List.getElem_mem (by exact hkj)
          have HE : Hid (unX t = none) := HN.out fun h => by
            have := allX_none hmem HX.out
            rw [h.2.2] at this
            cases this
          have hbad : (z.toNat : Int) < 48 ∨ 57 < (z.toNat : Int) ∧ (z.toNat : Int) < 97 ∨ 102 < (z.toNat : Int) := by omega
          clear h1 h2 hmem HXY
          rcases hbad with c1 | ⟨c1, c2⟩ | c1
          all_goals
            go_wp2
            refine bodyPost_ret (v := .tuple #[.string ⟨#[]⟩, .bool false]) (by simp [results, Tryd.results45, go_sem]; try rfl) rfl ?_
            exact ⟨⟨#[]⟩, by rw [HE.out]; rfl, fun a h => (by rw [HE.out] at h; cases h), HI.out.2.1⟩
        · obtain rfl : j = 2 := by omega
          obtain ⟨v, hv⟩ : ∃ v, v = vK x y 2 := ⟨_, rfl⟩
          rw [← hv]
          obtain ⟨zs, hzs⟩ : ∃ zs, zs = decZ (t.data.toList.take k) := ⟨_, rfl⟩
          have HZ : Hid (decZ (t.data.toList.take (k + 2)) = zs ++ [(v : Int)] ∧ zs = decZ (t.data.toList.take k)) := by
            refine ⟨?_, hzs⟩
            rw [HT.out, decZ_two _ _ _ (by rw [HTL.out]; exact hk2), hzs, hv]
            rfl
          have HA : Hid (allX (t.data.toList.take (k + 2)) = true) := by
            show _ = _
            rw [HT.out, allX_snoc, allX_snoc, HI.out.2.2, hv0 (by omega), hv1 (by omega)]
            rfl
          have hzl : zs.length + 1 ≤ 2000000 := by
            have := decZ_len (t.data.toList.take k)
            rw [HTL.out] at this
            rw [hzs]
            omega
          have ho := HI.out.1
          rw [← hzs] at ho
          have ha : Below wr.heap.size wr (wr.alloc (.cells #[.int .u8 (v : Int)] 5)) := (Below.refl _ _).alloc (Nat.le_refl _) _
          have hrow5 : (wr.alloc (.cells #[.int .u8 (v : Int)] 5)).ownsRow w.heap.size 5 1 u4 zs.length (zs.map (Value.int .u8)) := ho.alloc _
          have b5 : Below w.heap.size w (wr.alloc (.cells #[.int .u8 (v : Int)] 5)) := HI.out.2.1.trans (ha.mono HI.out.2.1.size)
          have hc5 : (wr.alloc (.cells #[.int .u8 (v : Int)] 5)).cell? ⟨wr.heap.size, 0, none⟩ = some (.int .u8 (v : Int)) := by simp [go_sem]
          obtain ⟨X, hX⟩ : ∃ X, wr.alloc (.cells #[.int .u8 (v : Int)] 5) = X := ⟨_, rfl⟩
          rw [hX] at hrow5 b5 hc5
          have hs5 : w.heap.size ≤ X.heap.size := b5.size
          have HB5 : Hid (Below w.heap.size w X) := b5
          clear hv hzs ha b5 ho hv0 hv1
          go_wp2_with (at_builtin; (try rw [hX]); refine wpList_app1 (base := w.heap.size) (c := wr.heap.size) (C := 1) (lv := u4) (zs := zs) (z := (v : Int)) rfl (.tmp 50) (.tmp 52) rfl rfl rfl hrow5 hc5 hzl hs5 ?_; intro v6 w6 hown6 hgrow6; have H6 : Hid (w6.ownsRow w.heap.size 5 1 v6 (zs ++ [(v : Int)]).length ((zs ++ [(v : Int)]).map (Value.int .u8)) ∧ Below w.heap.size w w6) := ⟨by rw [List.length_append]; exact hown6, HB5.out.grown hgrow6 hs5 (fun k hk => (hrow5.lt k hk).1)⟩; clear hown6 hgrow6)
          go_roundw
          case rel => exact ⟨k + 2, by go_num, by omega, by omega, HA.out, by rw [HZ.out.1]; exact H6.out.1, H6.out.2⟩
          case measure => simp [intOf]; omega
    · have hcv := conv_rowH HI.out.1
      have hlt' : ¬ (k : Int) + 1 < (t.size : Int) := by omega
      have HB : Hid (Below w.heap.size w wr ∧ allX (t.data.toList.take k) = true) := HI.out.2
      by_cases h0 : t.size = 0
      · have HE : Hid (unX t = none) := HN.out fun h => by omega
        have g0 : ¬ (t.size : Int) > 0 := by omega
        clear h0 HI
        go_wp2
        refine bodyPost_ret (v := .tuple #[.string (strOfNums (decZ (t.data.toList.take k))), .bool false]) (by simp [results, Tryd.results45, go_sem]; try rfl) rfl ?_
        exact ⟨_, by rw [HE.out]; rfl, fun a h => (by rw [HE.out] at h; cases h), HB.out.1⟩
      have g0 : (t.size : Int) > 0 := by omega
      by_cases h2 : t.size % 2 = 0
      · have H2 : Hid ((t.size : Int) % 2 = 0) := show (t.size : Int) % 2 = 0 by omega
        have h2' : ((t.size : Int).tmod 2 == 0) = true := by
          rw [Int.tmod_eq_emod_of_nonneg (by omega)]
          simp
          omega
        have hk : k = t.size := by omega
        have htk : t.data.toList.take k = t.data.toList := by rw [hk]; exact List.take_of_length_le (Nat.le_refl _)
        have HE : Hid (unX t = some ⟨(decB t.data.toList).toArray⟩) := HY.out ⟨by omega, h2, by rw [← htk]; exact HB.out.2⟩
        have HT : Hid (t.data.toList.take k = t.data.toList) := htk
        clear hk htk h2 h0 HI
        go_wp2
        refine bodyPost_ret (v := .tuple #[.string (strOfNums (decZ (t.data.toList.take k))), .bool true]) (by simp [results, Tryd.results45, go_sem]; first | exact H2.out | rfl) rfl ?_
        exact ⟨_, by rw [HE.out]; rfl, fun a h => (by rw [HE.out] at h; cases h; rw [HT.out]; rfl), HB.out.1⟩
      · have H2 : Hid (¬ (t.size : Int) % 2 = 0) := show ¬ (t.size : Int) % 2 = 0 by omega
        have h2' : ((t.size : Int).tmod 2 == 0) = false := by
          rw [Int.tmod_eq_emod_of_nonneg (by omega)]
          simp
          omega
        have HE : Hid (unX t = none) := HN.out fun h => by omega
        clear h2 h0 HI
        go_wp2
        refine bodyPost_ret (v := .tuple #[.string (strOfNums (decZ (t.data.toList.take k))), .bool false]) (by simp [results, Tryd.results45, go_sem]; first | exact H2.out | rfl) rfl ?_
        exact ⟨_, by rw [HE.out]; rfl, fun a h => (by rw [HE.out] at h; cases h), HB.out.1⟩
end Go.Proofs.YtcdmnodhkgiaaaaDoor
