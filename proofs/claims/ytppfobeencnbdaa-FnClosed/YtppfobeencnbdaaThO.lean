/- Contracts of the program's standOf, ThreeOf, ThreeText. -/
import Derived.Test.YtppfobeencnbdaaThI
namespace Go.Proofs.Ytppfobeencnbdaa
open Go.ChangeShapes Go.WideShapes Go.ChangeAt Go.RowKit
theorem box3T {W : World} {b t : Nat} {x0 x1 x2 : Value} (h : W.heap[b]? = some (.cells #[x0, x1, x2] t)) : W.cell? ⟨b, 0, none⟩ = some x0 ∧ W.cell? ⟨b, 1, none⟩ = some x1 ∧ W.cell? ⟨b, 2, none⟩ = some x2 := by
  refine ⟨?_, ?_, ?_⟩ <;> simp [World.cell?, h]
theorem set3T {W : World} {b t : Nat} {x0 x1 x2 y0 y1 y2 : Value} (h : W.heap[b]? = some (.cells #[x0, x1, x2] t)) :
    (((W.setCell ⟨b, 0, none⟩ y0).setCell ⟨b, 1, none⟩ y1).setCell ⟨b, 2, none⟩ y2).heap[b]? = some (.cells #[y0, y1, y2] t) := by
  simp [World.setCell, Array.getElem?_modify, h]
theorem bel3T {n b : Nat} {a W : World} {y0 y1 y2 : Value} (h : Below n a W) (hP : n ≤ b) : Below n a (((W.setCell ⟨b, 0, none⟩ y0).setCell ⟨b, 1, none⟩ y1).setCell ⟨b, 2, none⟩ y2) := ((h.setCell hP _).setCell hP _).setCell hP _
theorem two_new (w : World) (o1 o2 : Obj) : ((w.alloc o1).alloc o2).heap[w.heap.size]? = some o1 ∧ ((w.alloc o1).alloc o2).heap[w.heap.size + 1]? = some o2 := by
  constructor
  · exact (((Below.refl (w.alloc o1).heap.size _).alloc (Nat.le_refl _) o2).block _ (by simp)).trans (World.alloc_heap_new _ _)
  · have := World.alloc_heap_new (w.alloc o1) o2
    simpa using this
theorem idxTh0 (w : World) : (Instr.index 63 (.agg #[.func (.func 44) #[] #[], .int .i64 5, .string ⟨#[103, 111, 110, 101]⟩, .func (.func 45) #[] #[], .int .i64 4, .string ⟨#[100, 111, 110, 101]⟩, .func (.func 46) #[] #[], .int .i64 3, .string ⟨#[119, 97, 121]⟩, .func (.func 47) #[] #[], .int .i64 1, .string ⟨#[110, 101, 119]⟩, .func (.func 48) #[] #[], .int .i64 2, .string ⟨#[112, 97, 114, 116]⟩]) (.int .i64 0)).run Try.prog w = .ok (.agg #[.func (.func 44) #[] #[], .int .i64 5, .string ⟨#[103, 111, 110, 101]⟩]) w := by kernel_rfl
theorem idxTh1 (w : World) : (Instr.index 63 (.agg #[.func (.func 44) #[] #[], .int .i64 5, .string ⟨#[103, 111, 110, 101]⟩, .func (.func 45) #[] #[], .int .i64 4, .string ⟨#[100, 111, 110, 101]⟩, .func (.func 46) #[] #[], .int .i64 3, .string ⟨#[119, 97, 121]⟩, .func (.func 47) #[] #[], .int .i64 1, .string ⟨#[110, 101, 119]⟩, .func (.func 48) #[] #[], .int .i64 2, .string ⟨#[112, 97, 114, 116]⟩]) (.int .i64 1)).run Try.prog w = .ok (.agg #[.func (.func 45) #[] #[], .int .i64 4, .string ⟨#[100, 111, 110, 101]⟩]) w := by kernel_rfl
theorem idxTh2 (w : World) : (Instr.index 63 (.agg #[.func (.func 44) #[] #[], .int .i64 5, .string ⟨#[103, 111, 110, 101]⟩, .func (.func 45) #[] #[], .int .i64 4, .string ⟨#[100, 111, 110, 101]⟩, .func (.func 46) #[] #[], .int .i64 3, .string ⟨#[119, 97, 121]⟩, .func (.func 47) #[] #[], .int .i64 1, .string ⟨#[110, 101, 119]⟩, .func (.func 48) #[] #[], .int .i64 2, .string ⟨#[112, 97, 114, 116]⟩]) (.int .i64 2)).run Try.prog w = .ok (.agg #[.func (.func 46) #[] #[], .int .i64 3, .string ⟨#[119, 97, 121]⟩]) w := by kernel_rfl
theorem idxTh3 (w : World) : (Instr.index 63 (.agg #[.func (.func 44) #[] #[], .int .i64 5, .string ⟨#[103, 111, 110, 101]⟩, .func (.func 45) #[] #[], .int .i64 4, .string ⟨#[100, 111, 110, 101]⟩, .func (.func 46) #[] #[], .int .i64 3, .string ⟨#[119, 97, 121]⟩, .func (.func 47) #[] #[], .int .i64 1, .string ⟨#[110, 101, 119]⟩, .func (.func 48) #[] #[], .int .i64 2, .string ⟨#[112, 97, 114, 116]⟩]) (.int .i64 3)).run Try.prog w = .ok (.agg #[.func (.func 47) #[] #[], .int .i64 1, .string ⟨#[110, 101, 119]⟩]) w := by kernel_rfl
theorem idxTh4 (w : World) : (Instr.index 63 (.agg #[.func (.func 44) #[] #[], .int .i64 5, .string ⟨#[103, 111, 110, 101]⟩, .func (.func 45) #[] #[], .int .i64 4, .string ⟨#[100, 111, 110, 101]⟩, .func (.func 46) #[] #[], .int .i64 3, .string ⟨#[119, 97, 121]⟩, .func (.func 47) #[] #[], .int .i64 1, .string ⟨#[110, 101, 119]⟩, .func (.func 48) #[] #[], .int .i64 2, .string ⟨#[112, 97, 114, 116]⟩]) (.int .i64 4)).run Try.prog w = .ok (.agg #[.func (.func 48) #[] #[], .int .i64 2, .string ⟨#[112, 97, 114, 116]⟩]) w := by kernel_rfl
set_option maxHeartbeats 8000000 in
theorem standOf_any (l : OLn) (w : World) : Calls Try.prog 22 #[.agg #[.string l.partner, .string l.ref, .int .i64 l.no, .string l.item, .int .i64 l.ordered, .int .i64 l.sent, .int .i64 l.got, .int .i64 l.cut]] w fun e w' => (∃ f, e = .returned (.agg #[f, .int .i64 (stT l), .string (wdT (stT l))])) ∧ Below w.heap.size w w' := by
  have Q1 := lineRight_impl l
  obtain ⟨x, hx⟩ : ∃ x, x = lnB l := ⟨_, rfl⟩
  rw [← hx] at Q1
  have HX : Hid (x = lnB l) := hx
  clear hx
  obtain ⟨y, hy⟩ : ∃ y, y = stT l := ⟨_, rfl⟩
  obtain ⟨t, ht⟩ : ∃ t, t = wdT (stT l) := ⟨_, rfl⟩
  rw [← ht, ← hy]
  have HY : Hid (y = stT l ∧ t = wdT (stT l)) := ⟨hy, ht⟩
  clear hy ht
  obtain ⟨W0, hW0⟩ : ∃ W0, (w.alloc (.cells #[.string l.partner, .string l.ref, .int .i64 l.no, .string l.item, .int .i64 l.ordered, .int .i64 l.sent, .int .i64 l.got, .int .i64 l.cut] 31)).alloc (.cells #[.nilFunc, .int .i64 0, .string ⟨#[]⟩] 49) = W0 := ⟨_, rfl⟩
  have hb0 : Below w.heap.size w W0 := by rw [← hW0]; exact ((Below.refl _ _).alloc (Nat.le_refl _) _).alloc (by simp) _
  obtain ⟨i0, i1⟩ := two_new w (.cells #[.string l.partner, .string l.ref, .int .i64 l.no, .string l.item, .int .i64 l.ordered, .int .i64 l.sent, .int .i64 l.got, .int .i64 l.cut] 31) (.cells #[.nilFunc, .int .i64 0, .string ⟨#[]⟩] 49)
  rw [hW0] at i0 i1
  obtain ⟨B, hB⟩ : ∃ B, B = w.heap.size := ⟨_, rfl⟩
  obtain ⟨R, hR⟩ : ∃ R, R = w.heap.size + 1 := ⟨_, rfl⟩
  rw [← hB] at i0
  rw [← hR] at i1
  have HD : Hid (∀ W, Below W0.heap.size W0 W → (W.cell? ⟨B, 0, none⟩ = some (.string l.partner) ∧ W.cell? ⟨B, 1, none⟩ = some (.string l.ref) ∧ W.cell? ⟨B, 2, none⟩ = some (.int .i64 l.no) ∧ W.cell? ⟨B, 3, none⟩ = some (.string l.item) ∧ W.cell? ⟨B, 4, none⟩ = some (.int .i64 l.ordered) ∧ W.cell? ⟨B, 5, none⟩ = some (.int .i64 l.sent) ∧ W.cell? ⟨B, 6, none⟩ = some (.int .i64 l.got) ∧ W.cell? ⟨B, 7, none⟩ = some (.int .i64 l.cut)) ∧ W.heap[R]? = some (.cells #[.nilFunc, .int .i64 0, .string ⟨#[]⟩] 49)) := fun W hW => ⟨box8 ((hW.block _ (Array.getElem?_eq_some_iff.1 i0).1).trans i0), (hW.block _ (Array.getElem?_eq_some_iff.1 i1).1).trans i1⟩
  have HS : Hid (w.heap.size ≤ R ∧ R < W0.heap.size) := ⟨by omega, (Array.getElem?_eq_some_iff.1 i1).1⟩
  have HB : Hid (Below w.heap.size w W0) := hb0
  obtain ⟨⟨c0, c1, c2, c3, c4, c5, c6, c7⟩, hr⟩ := HD.out W0 (Below.refl _ _)
  go_enter Try.func22, Try.ntmps22
  go_upto_region 1 with fail
  try rw [hW0]
  try rw [← hR]
  try rw [← hB]
  clear hW0 hb0 i0 i1 hB hR hr
  go_wp2_with fail
  refine (Q1 _).mono ?_
  rintro e w1 ⟨rfl, hb1⟩
  have H1 : Hid (Below W0.heap.size W0 w1) := hb1
  clear hb1 c0 c1 c2 c3 c4 c5 c6 c7 Q1
  cases x with
  | false =>
    have HN : Hid (y = 0 ∧ t = ⟨#[]⟩) := by
      have h0 : stT l = 0 := stT_no fun h => by have h1 := HX.out; rw [lnB_yes h] at h1; cases h1
      exact ⟨by rw [HY.out.1, h0], by rw [HY.out.2, h0]; rfl⟩
    have hr := (HD.out w1 H1.out).2
    have HT : Hid (w1.heap[R]? = some (.cells #[.nilFunc, .int .i64 0, .string ⟨#[]⟩] 49)) := hr
    have hfz := frozeTh hr
    obtain ⟨r0, r1, r2⟩ := box3T hr
    clear hr
    go_wp2
    obtain ⟨f0, f1, f2⟩ := box3T (set3T (y0 := .nilFunc) (y1 := .int .i64 0) (y2 := .string ⟨#[]⟩) HT.out)
    rw [HN.out.1, HN.out.2]
    exact bodyPost_ret (v := .agg #[.nilFunc, .int .i64 0, .string ⟨#[]⟩]) (by simp [results, Try.results22, go_sem, f0, f1, f2]) rfl ⟨⟨_, rfl⟩, bel3T (HB.out.trans (H1.out.mono HB.out.size)) HS.out.1⟩
  | true =>
    have hok : LnOk l := lnB_iff.1 HX.out.symm
    have HK : Hid (LnOk l ∧ stT l = stR l) := ⟨hok, stT_yes hok⟩
    clear hok
    go_wp2_with (go_at_call 36; refine (standRules_any _).mono ?_; rintro e w2 ⟨rfl, hb2⟩; have H2 : Hid (Below W0.heap.size W0 w2) := H1.out.trans (hb2.mono H1.out.size); clear hb2)
    go_loopw [10] (fun i wr => ∃ k : Int, i = .int .i64 k ∧ 0 ≤ k ∧ k ≤ 4 ∧ Hid ((1 ≤ k → ¬ thA l) ∧ (2 ≤ k → ¬ thE l) ∧ (3 ≤ k → ¬ thY l) ∧ (4 ≤ k → ¬ thU l)) ∧ Below W0.heap.size W0 wr) (fun i _ => 5 - (intOf i).toNat)
    case atStart => exact ⟨0, rfl, by omega, by omega, ⟨by omega, by omega, by omega, by omega⟩, H2.out⟩
    case round =>
      obtain ⟨k, rfl, hk0, hk, HF, hb⟩ := hrel
      have HW : Hid (Below W0.heap.size W0 wr) := hb
      clear hb
      obtain rfl | rfl | rfl | rfl | rfl : k = 0 ∨ k = 1 ∨ k = 2 ∨ k = 3 ∨ k = 4 := by omega
      · have ix := idxTh0
        go_upto_region 6 with fail
        clear ix
        obtain ⟨W2, hW2⟩ : ∃ W2, wr.alloc (.cells #[.func (.func 44) #[] #[], .int .i64 5, .string ⟨#[103, 111, 110, 101]⟩] 49) = W2 := ⟨_, rfl⟩
        try rw [hW2]
        obtain ⟨P, hP⟩ : ∃ P, P = wr.heap.size := ⟨_, rfl⟩
        have hp : W2.heap[P]? = some (.cells #[.func (.func 44) #[] #[], .int .i64 5, .string ⟨#[103, 111, 110, 101]⟩] 49) := by rw [← hW2, hP]; exact World.alloc_heap_new _ _
        have hb2 : Below W0.heap.size W0 W2 := by rw [← hW2]; exact HW.out.alloc HW.out.size _
        try rw [← hP]
        clear hW2 hP
        have HP : Hid (Below W0.heap.size W0 W2 ∧ W2.heap[P]? = some (.cells #[.func (.func 44) #[] #[], .int .i64 5, .string ⟨#[103, 111, 110, 101]⟩] 49)) := ⟨hb2, hp⟩
        obtain ⟨⟨c0, c1, c2, c3, c4, c5, c6, c7⟩, _⟩ := HD.out W2 hb2
        obtain ⟨p0, p1, p2⟩ := box3T hp
        clear hb2 hp
        have Q := allCut_any l HK.out.1
        by_cases h : thA l
        · rw [decide_eq_true h] at Q
          have HN : Hid (y = 5 ∧ t = ⟨#[103, 111, 110, 101]⟩) := by
            have h0 : stT l = 5 := by rw [HK.out.2, stR, if_pos h]
            exact ⟨by rw [HY.out.1, h0], by rw [HY.out.2, h0]; rfl⟩
          go_wp2_with fail
          refine (Q _).mono ?_
          rintro e w3 ⟨rfl, hb3⟩
          have H3 : Hid (Below W0.heap.size W0 w3) := HP.out.1.trans (hb3.mono HP.out.1.size)
          have hp3 := (hb3.block P (Array.getElem?_eq_some_iff.1 HP.out.2).1).trans HP.out.2
          obtain ⟨p0, p1, p2⟩ := box3T hp3
          clear hp3 hb3 Q c0 c1 c2 c3 c4 c5 c6 c7
          have hr := (HD.out w3 H3.out).2
          have HT : Hid (w3.heap[R]? = some (.cells #[.nilFunc, .int .i64 0, .string ⟨#[]⟩] 49)) := hr
          have hfz := frozeTh hr
          obtain ⟨r0, r1, r2⟩ := box3T hr
          clear hr
          go_wp2
          obtain ⟨f0, f1, f2⟩ := box3T (set3T (y0 := .func (.func 44) #[] #[]) (y1 := .int .i64 5) (y2 := .string ⟨#[103, 111, 110, 101]⟩) HT.out)
          rw [HN.out.1, HN.out.2]
          exact bodyPost_ret (v := .agg #[.func (.func 44) #[] #[], .int .i64 5, .string ⟨#[103, 111, 110, 101]⟩]) (by simp [results, Try.results22, go_sem, f0, f1, f2]) rfl ⟨⟨_, rfl⟩, bel3T (HB.out.trans (H3.out.mono HB.out.size)) HS.out.1⟩
        · rw [decide_eq_false h] at Q
          go_wp2_with fail
          refine (Q _).mono ?_
          rintro e w3 ⟨rfl, hb3⟩
          have H3 : Hid (Below W0.heap.size W0 w3) := HP.out.1.trans (hb3.mono HP.out.1.size)
          have hp3 := (hb3.block P (Array.getElem?_eq_some_iff.1 HP.out.2).1).trans HP.out.2
          obtain ⟨p0, p1, p2⟩ := box3T hp3
          clear hp3 hb3 Q c0 c1 c2 c3 c4 c5 c6 c7
          go_wp2
          go_roundw
          case rel => exact ⟨1, by go_num, by omega, by omega, ⟨fun _ => h, fun x => absurd x (by omega), fun x => absurd x (by omega), fun x => absurd x (by omega)⟩, H3.out⟩
          case measure => simp [intOf]
      · have ix := idxTh1
        go_upto_region 6 with fail
        clear ix
        obtain ⟨W2, hW2⟩ : ∃ W2, wr.alloc (.cells #[.func (.func 45) #[] #[], .int .i64 4, .string ⟨#[100, 111, 110, 101]⟩] 49) = W2 := ⟨_, rfl⟩
        try rw [hW2]
        obtain ⟨P, hP⟩ : ∃ P, P = wr.heap.size := ⟨_, rfl⟩
        have hp : W2.heap[P]? = some (.cells #[.func (.func 45) #[] #[], .int .i64 4, .string ⟨#[100, 111, 110, 101]⟩] 49) := by rw [← hW2, hP]; exact World.alloc_heap_new _ _
        have hb2 : Below W0.heap.size W0 W2 := by rw [← hW2]; exact HW.out.alloc HW.out.size _
        try rw [← hP]
        clear hW2 hP
        have HP : Hid (Below W0.heap.size W0 W2 ∧ W2.heap[P]? = some (.cells #[.func (.func 45) #[] #[], .int .i64 4, .string ⟨#[100, 111, 110, 101]⟩] 49)) := ⟨hb2, hp⟩
        obtain ⟨⟨c0, c1, c2, c3, c4, c5, c6, c7⟩, _⟩ := HD.out W2 hb2
        obtain ⟨p0, p1, p2⟩ := box3T hp
        clear hb2 hp
        have Q := ended_any l HK.out.1
        by_cases h : thE l
        · rw [decide_eq_true h] at Q
          have HN : Hid (y = 4 ∧ t = ⟨#[100, 111, 110, 101]⟩) := by
            have h0 : stT l = 4 := by rw [HK.out.2, stR, if_neg (HF.out.1 (by omega)), if_pos h]
            exact ⟨by rw [HY.out.1, h0], by rw [HY.out.2, h0]; rfl⟩
          go_wp2_with fail
          refine (Q _).mono ?_
          rintro e w3 ⟨rfl, hb3⟩
          have H3 : Hid (Below W0.heap.size W0 w3) := HP.out.1.trans (hb3.mono HP.out.1.size)
          have hp3 := (hb3.block P (Array.getElem?_eq_some_iff.1 HP.out.2).1).trans HP.out.2
          obtain ⟨p0, p1, p2⟩ := box3T hp3
          clear hp3 hb3 Q c0 c1 c2 c3 c4 c5 c6 c7
          have hr := (HD.out w3 H3.out).2
          have HT : Hid (w3.heap[R]? = some (.cells #[.nilFunc, .int .i64 0, .string ⟨#[]⟩] 49)) := hr
          have hfz := frozeTh hr
          obtain ⟨r0, r1, r2⟩ := box3T hr
          clear hr
          go_wp2
          obtain ⟨f0, f1, f2⟩ := box3T (set3T (y0 := .func (.func 45) #[] #[]) (y1 := .int .i64 4) (y2 := .string ⟨#[100, 111, 110, 101]⟩) HT.out)
          rw [HN.out.1, HN.out.2]
          exact bodyPost_ret (v := .agg #[.func (.func 45) #[] #[], .int .i64 4, .string ⟨#[100, 111, 110, 101]⟩]) (by simp [results, Try.results22, go_sem, f0, f1, f2]) rfl ⟨⟨_, rfl⟩, bel3T (HB.out.trans (H3.out.mono HB.out.size)) HS.out.1⟩
        · rw [decide_eq_false h] at Q
          go_wp2_with fail
          refine (Q _).mono ?_
          rintro e w3 ⟨rfl, hb3⟩
          have H3 : Hid (Below W0.heap.size W0 w3) := HP.out.1.trans (hb3.mono HP.out.1.size)
          have hp3 := (hb3.block P (Array.getElem?_eq_some_iff.1 HP.out.2).1).trans HP.out.2
          obtain ⟨p0, p1, p2⟩ := box3T hp3
          clear hp3 hb3 Q c0 c1 c2 c3 c4 c5 c6 c7
          go_wp2
          go_roundw
          case rel => exact ⟨2, by go_num, by omega, by omega, ⟨fun _ => HF.out.1 (by omega), fun _ => h, fun x => absurd x (by omega), fun x => absurd x (by omega)⟩, H3.out⟩
          case measure => simp [intOf]
      · have ix := idxTh2
        go_upto_region 6 with fail
        clear ix
        obtain ⟨W2, hW2⟩ : ∃ W2, wr.alloc (.cells #[.func (.func 46) #[] #[], .int .i64 3, .string ⟨#[119, 97, 121]⟩] 49) = W2 := ⟨_, rfl⟩
        try rw [hW2]
        obtain ⟨P, hP⟩ : ∃ P, P = wr.heap.size := ⟨_, rfl⟩
        have hp : W2.heap[P]? = some (.cells #[.func (.func 46) #[] #[], .int .i64 3, .string ⟨#[119, 97, 121]⟩] 49) := by rw [← hW2, hP]; exact World.alloc_heap_new _ _
        have hb2 : Below W0.heap.size W0 W2 := by rw [← hW2]; exact HW.out.alloc HW.out.size _
        try rw [← hP]
        clear hW2 hP
        have HP : Hid (Below W0.heap.size W0 W2 ∧ W2.heap[P]? = some (.cells #[.func (.func 46) #[] #[], .int .i64 3, .string ⟨#[119, 97, 121]⟩] 49)) := ⟨hb2, hp⟩
        obtain ⟨⟨c0, c1, c2, c3, c4, c5, c6, c7⟩, _⟩ := HD.out W2 hb2
        obtain ⟨p0, p1, p2⟩ := box3T hp
        clear hb2 hp
        have Q := onItsWay_any l HK.out.1
        by_cases h : thY l
        · rw [decide_eq_true h] at Q
          have HN : Hid (y = 3 ∧ t = ⟨#[119, 97, 121]⟩) := by
            have h0 : stT l = 3 := by rw [HK.out.2, stR, if_neg (HF.out.1 (by omega)), if_neg (HF.out.2.1 (by omega)), if_pos h]
            exact ⟨by rw [HY.out.1, h0], by rw [HY.out.2, h0]; rfl⟩
          go_wp2_with fail
          refine (Q _).mono ?_
          rintro e w3 ⟨rfl, hb3⟩
          have H3 : Hid (Below W0.heap.size W0 w3) := HP.out.1.trans (hb3.mono HP.out.1.size)
          have hp3 := (hb3.block P (Array.getElem?_eq_some_iff.1 HP.out.2).1).trans HP.out.2
          obtain ⟨p0, p1, p2⟩ := box3T hp3
          clear hp3 hb3 Q c0 c1 c2 c3 c4 c5 c6 c7
          have hr := (HD.out w3 H3.out).2
          have HT : Hid (w3.heap[R]? = some (.cells #[.nilFunc, .int .i64 0, .string ⟨#[]⟩] 49)) := hr
          have hfz := frozeTh hr
          obtain ⟨r0, r1, r2⟩ := box3T hr
          clear hr
          go_wp2
          obtain ⟨f0, f1, f2⟩ := box3T (set3T (y0 := .func (.func 46) #[] #[]) (y1 := .int .i64 3) (y2 := .string ⟨#[119, 97, 121]⟩) HT.out)
          rw [HN.out.1, HN.out.2]
          exact bodyPost_ret (v := .agg #[.func (.func 46) #[] #[], .int .i64 3, .string ⟨#[119, 97, 121]⟩]) (by simp [results, Try.results22, go_sem, f0, f1, f2]) rfl ⟨⟨_, rfl⟩, bel3T (HB.out.trans (H3.out.mono HB.out.size)) HS.out.1⟩
        · rw [decide_eq_false h] at Q
          go_wp2_with fail
          refine (Q _).mono ?_
          rintro e w3 ⟨rfl, hb3⟩
          have H3 : Hid (Below W0.heap.size W0 w3) := HP.out.1.trans (hb3.mono HP.out.1.size)
          have hp3 := (hb3.block P (Array.getElem?_eq_some_iff.1 HP.out.2).1).trans HP.out.2
          obtain ⟨p0, p1, p2⟩ := box3T hp3
          clear hp3 hb3 Q c0 c1 c2 c3 c4 c5 c6 c7
          go_wp2
          go_roundw
          case rel => exact ⟨3, by go_num, by omega, by omega, ⟨fun _ => HF.out.1 (by omega), fun _ => HF.out.2.1 (by omega), fun _ => h, fun x => absurd x (by omega)⟩, H3.out⟩
          case measure => simp [intOf]
      · have ix := idxTh3
        go_upto_region 6 with fail
        clear ix
        obtain ⟨W2, hW2⟩ : ∃ W2, wr.alloc (.cells #[.func (.func 47) #[] #[], .int .i64 1, .string ⟨#[110, 101, 119]⟩] 49) = W2 := ⟨_, rfl⟩
        try rw [hW2]
        obtain ⟨P, hP⟩ : ∃ P, P = wr.heap.size := ⟨_, rfl⟩
        have hp : W2.heap[P]? = some (.cells #[.func (.func 47) #[] #[], .int .i64 1, .string ⟨#[110, 101, 119]⟩] 49) := by rw [← hW2, hP]; exact World.alloc_heap_new _ _
        have hb2 : Below W0.heap.size W0 W2 := by rw [← hW2]; exact HW.out.alloc HW.out.size _
        try rw [← hP]
        clear hW2 hP
        have HP : Hid (Below W0.heap.size W0 W2 ∧ W2.heap[P]? = some (.cells #[.func (.func 47) #[] #[], .int .i64 1, .string ⟨#[110, 101, 119]⟩] 49)) := ⟨hb2, hp⟩
        obtain ⟨⟨c0, c1, c2, c3, c4, c5, c6, c7⟩, _⟩ := HD.out W2 hb2
        obtain ⟨p0, p1, p2⟩ := box3T hp
        clear hb2 hp
        have Q := untouched_any l HK.out.1
        by_cases h : thU l
        · rw [decide_eq_true h] at Q
          have HN : Hid (y = 1 ∧ t = ⟨#[110, 101, 119]⟩) := by
            have h0 : stT l = 1 := by rw [HK.out.2, stR, if_neg (HF.out.1 (by omega)), if_neg (HF.out.2.1 (by omega)), if_neg (HF.out.2.2.1 (by omega)), if_pos h]
            exact ⟨by rw [HY.out.1, h0], by rw [HY.out.2, h0]; rfl⟩
          go_wp2_with fail
          refine (Q _).mono ?_
          rintro e w3 ⟨rfl, hb3⟩
          have H3 : Hid (Below W0.heap.size W0 w3) := HP.out.1.trans (hb3.mono HP.out.1.size)
          have hp3 := (hb3.block P (Array.getElem?_eq_some_iff.1 HP.out.2).1).trans HP.out.2
          obtain ⟨p0, p1, p2⟩ := box3T hp3
          clear hp3 hb3 Q c0 c1 c2 c3 c4 c5 c6 c7
          have hr := (HD.out w3 H3.out).2
          have HT : Hid (w3.heap[R]? = some (.cells #[.nilFunc, .int .i64 0, .string ⟨#[]⟩] 49)) := hr
          have hfz := frozeTh hr
          obtain ⟨r0, r1, r2⟩ := box3T hr
          clear hr
          go_wp2
          obtain ⟨f0, f1, f2⟩ := box3T (set3T (y0 := .func (.func 47) #[] #[]) (y1 := .int .i64 1) (y2 := .string ⟨#[110, 101, 119]⟩) HT.out)
          rw [HN.out.1, HN.out.2]
          exact bodyPost_ret (v := .agg #[.func (.func 47) #[] #[], .int .i64 1, .string ⟨#[110, 101, 119]⟩]) (by simp [results, Try.results22, go_sem, f0, f1, f2]) rfl ⟨⟨_, rfl⟩, bel3T (HB.out.trans (H3.out.mono HB.out.size)) HS.out.1⟩
        · rw [decide_eq_false h] at Q
          go_wp2_with fail
          refine (Q _).mono ?_
          rintro e w3 ⟨rfl, hb3⟩
          have H3 : Hid (Below W0.heap.size W0 w3) := HP.out.1.trans (hb3.mono HP.out.1.size)
          have hp3 := (hb3.block P (Array.getElem?_eq_some_iff.1 HP.out.2).1).trans HP.out.2
          obtain ⟨p0, p1, p2⟩ := box3T hp3
          clear hp3 hb3 Q c0 c1 c2 c3 c4 c5 c6 c7
          go_wp2
          go_roundw
          case rel => exact ⟨4, by go_num, by omega, by omega, ⟨fun _ => HF.out.1 (by omega), fun _ => HF.out.2.1 (by omega), fun _ => HF.out.2.2.1 (by omega), fun _ => h⟩, H3.out⟩
          case measure => simp [intOf]
      · have ix := idxTh4
        go_upto_region 6 with fail
        clear ix
        obtain ⟨W2, hW2⟩ : ∃ W2, wr.alloc (.cells #[.func (.func 48) #[] #[], .int .i64 2, .string ⟨#[112, 97, 114, 116]⟩] 49) = W2 := ⟨_, rfl⟩
        try rw [hW2]
        obtain ⟨P, hP⟩ : ∃ P, P = wr.heap.size := ⟨_, rfl⟩
        have hp : W2.heap[P]? = some (.cells #[.func (.func 48) #[] #[], .int .i64 2, .string ⟨#[112, 97, 114, 116]⟩] 49) := by rw [← hW2, hP]; exact World.alloc_heap_new _ _
        have hb2 : Below W0.heap.size W0 W2 := by rw [← hW2]; exact HW.out.alloc HW.out.size _
        try rw [← hP]
        clear hW2 hP
        have HP : Hid (Below W0.heap.size W0 W2 ∧ W2.heap[P]? = some (.cells #[.func (.func 48) #[] #[], .int .i64 2, .string ⟨#[112, 97, 114, 116]⟩] 49)) := ⟨hb2, hp⟩
        obtain ⟨⟨c0, c1, c2, c3, c4, c5, c6, c7⟩, _⟩ := HD.out W2 hb2
        obtain ⟨p0, p1, p2⟩ := box3T hp
        clear hb2 hp
        have Q := begun_any l
        all_goals (skip)
        have HN : Hid (y = 2 ∧ t = ⟨#[112, 97, 114, 116]⟩) := by
          have h0 : stT l = 2 := by rw [HK.out.2, stR, if_neg (HF.out.1 (by omega)), if_neg (HF.out.2.1 (by omega)), if_neg (HF.out.2.2.1 (by omega)), if_neg (HF.out.2.2.2 (by omega))]
          exact ⟨by rw [HY.out.1, h0], by rw [HY.out.2, h0]; rfl⟩
        go_wp2_with fail
        refine (Q _).mono ?_
        rintro e w3 ⟨rfl, hb3⟩
        have H3 : Hid (Below W0.heap.size W0 w3) := HP.out.1.trans (hb3.mono HP.out.1.size)
        have hp3 := (hb3.block P (Array.getElem?_eq_some_iff.1 HP.out.2).1).trans HP.out.2
        obtain ⟨p0, p1, p2⟩ := box3T hp3
        clear hp3 hb3 Q c0 c1 c2 c3 c4 c5 c6 c7
        have hr := (HD.out w3 H3.out).2
        have HT : Hid (w3.heap[R]? = some (.cells #[.nilFunc, .int .i64 0, .string ⟨#[]⟩] 49)) := hr
        have hfz := frozeTh hr
        obtain ⟨r0, r1, r2⟩ := box3T hr
        clear hr
        go_wp2
        obtain ⟨f0, f1, f2⟩ := box3T (set3T (y0 := .func (.func 48) #[] #[]) (y1 := .int .i64 2) (y2 := .string ⟨#[112, 97, 114, 116]⟩) HT.out)
        rw [HN.out.1, HN.out.2]
        exact bodyPost_ret (v := .agg #[.func (.func 48) #[] #[], .int .i64 2, .string ⟨#[112, 97, 114, 116]⟩]) (by simp [results, Try.results22, go_sem, f0, f1, f2]) rfl ⟨⟨_, rfl⟩, bel3T (HB.out.trans (H3.out.mono HB.out.size)) HS.out.1⟩
end Go.Proofs.Ytppfobeencnbdaa
