/- Texts of ours put together: ShClone, HdJ. -/
import Derived.Shelf.LaysM
import Derived.Shelf.Strconv.Clone
import Derived.Test.YtjnikogaleofaaaDoorG00
import Derived.Test.YtjnikogaleofaaaDoorG23
import Derived.Test.YtjnikogaleofaaaDoorG24
import Derived.Test.YtjnikogaleofaaaDoorG21
import Derived.Test.YtjnikogaleofaaaDoorG07
import Derived.Deep.RegionHeld3
import Derived.Deep.RegionLaw
import Derived.Deep.Cut
import Derived.Deep.CutRange
namespace Go.Proofs.YtjnikogaleofaaaDoor
open Go.Shelf Go.RowKit
def renClone : Go.Shelf.Ren := ⟨fun | 316 => 46 | n => n, fun | 9 => 9 | 3 => 3 | 4 => 4 | 37 => 22 | 0 => 0 | 127 => 96 | 5 => 5 | n => n, fun | n => n⟩
theorem laysClone : Go.Proofs.LaysM.n316 Tryd.prog renClone := {
  mixed := by kernel_rfl
  f316 := Tryd.func46.trans (congrArg some (by kernel_rfl))
  t0 := Tryd.underlying0
  a0 := Tryd.isAgg0
  z0 := Tryd.sizeOf0
  v0 := Tryd.zeroValue0
  t3 := Tryd.underlying3
  a3 := Tryd.isAgg3
  z3 := Tryd.sizeOf3
  v3 := Tryd.zeroValue3
  t4 := Tryd.underlying4
  a4 := Tryd.isAgg4
  z4 := Tryd.sizeOf4
  v4 := Tryd.zeroValue4
  t9 := Tryd.underlying9
  a9 := Tryd.isAgg9
  z9 := Tryd.sizeOf9
  v9 := Tryd.zeroValue9
  t37 := Tryd.underlying22
  a37 := Tryd.isAgg22
  z37 := Tryd.sizeOf22
  v37 := Tryd.zeroValue22
  t127 := Tryd.underlying96
  a127 := Tryd.isAgg96
  z127 := Tryd.sizeOf96
  v127 := Tryd.zeroValue96
  t5 := Tryd.underlying5
  a5 := Tryd.isAgg5
  z5 := Tryd.sizeOf5
  v5 := Tryd.zeroValue5
  i0 := by kernel_rfl
  i3 := by kernel_rfl
  i4 := by kernel_rfl
  i5 := by kernel_rfl
  i9 := by kernel_rfl
  i37 := by kernel_rfl
  i127 := by kernel_rfl }
theorem cloneLite (s : ByteArray) (w : World) (hlim : s.size ≤ 281474976710656) : Calls Tryd.prog 46 #[.string s] w fun e w' => e = .returned (.string s) ∧ Below w.heap.size w w' := Any.stringslite_Clone laysClone s w hlim
theorem clone_any (s : ByteArray) (w : World) (hlim : s.size ≤ 281474976710656) : Calls Tryd.prog 32 #[.string s] w fun e w' => e = .returned (.string s) ∧ Below w.heap.size w w' := by
  go_enter Tryd.func32, Tryd.ntmps32
  go_wp2_with fail
  refine (cloneLite s _ hlim).mono ?_
  rintro e w1 ⟨rfl, hb⟩
  go_wp2
  go_ret
  exact ⟨rfl, hb⟩
end Go.Proofs.YtjnikogaleofaaaDoor
namespace Go.Proofs.YtjnikogaleofaaaDoor
open Go.ChangeShapes Go.WideShapes Go.ChangeAt Go.RowKit
/-- The answer's block, zero still. -/
structure RH (w W : World) : Prop where
  r : W.heap[w.heap.size]? = some (.cells #[.string ⟨#[]⟩, .string ⟨#[]⟩, .int .i64 0, .slice none 0 0, .bool false, .int .i64 0, .int .i64 0] 38)
  bel : Below w.heap.size w W
theorem RH.below {w W W' : World} (h : RH w W) (hb : Below W.heap.size W W') : RH w W' := ⟨(hb.block _ (Array.getElem?_eq_some_iff.1 h.r).1).trans h.r, h.bel.trans (hb.mono h.bel.size)⟩
theorem RH.lt {w W : World} (h : RH w W) : w.heap.size < W.heap.size := (Array.getElem?_eq_some_iff.1 h.r).1
theorem RH.cells {w W : World} (h : RH w W) : W.cell? ⟨w.heap.size, 0, none⟩ = some (.string ⟨#[]⟩) ∧ W.cell? ⟨w.heap.size, 1, none⟩ = some (.string ⟨#[]⟩) ∧ W.cell? ⟨w.heap.size, 2, none⟩ = some (.int .i64 0) ∧ W.cell? ⟨w.heap.size, 3, none⟩ = some (.slice none 0 0) ∧ W.cell? ⟨w.heap.size, 4, none⟩ = some (.bool false) ∧ W.cell? ⟨w.heap.size, 5, none⟩ = some (.int .i64 0) ∧ W.cell? ⟨w.heap.size, 6, none⟩ = some (.int .i64 0) ∧ ∀ o, W.frozen? ⟨w.heap.size, o, none⟩ = false := by
  have := h.r
  exact ⟨by simp [World.cell?, this], by simp [World.cell?, this], by simp [World.cell?, this], by simp [World.cell?, this], by simp [World.cell?, this], by simp [World.cell?, this], by simp [World.cell?, this], fun o => by simp [World.frozen?, this]⟩
theorem numIn_bd {l : List UInt8} {lo hi n : Int} (h : numIn l lo hi = some n) : lo ≤ n ∧ n ≤ hi := by
  unfold numIn at h
  split at h
  · split at h
    · rename_i q
      cases h
      exact q
    · cases h
  · cases h
theorem xcells {W : World} {X : Nat} (h : W.heap[X]? = some (.cells #[.string ⟨#[]⟩, .string ⟨#[]⟩, .int .i64 0, .slice none 0 0] 25)) : W.cell? ⟨X, 0, none⟩ = some (.string ⟨#[]⟩) ∧ W.cell? ⟨X, 1, none⟩ = some (.string ⟨#[]⟩) ∧ W.cell? ⟨X, 2, none⟩ = some (.int .i64 0) ∧ W.cell? ⟨X, 3, none⟩ = some (.slice none 0 0) ∧ ∀ o, W.frozen? ⟨X, o, none⟩ = false :=
  ⟨by simp [World.cell?, h], by simp [World.cell?, h], by simp [World.cell?, h], by simp [World.cell?, h], fun o => by simp [World.frozen?, h]⟩
theorem RH.set {w W : World} (h : RH w W) {X : Nat} (hX : w.heap.size < X) (i : Nat) (v : Value) : RH w (W.setCell ⟨X, i, none⟩ v) := ⟨(Below.heap_setCell W ⟨X, i, none⟩ v w.heap.size (by dsimp only; omega)).trans h.r, h.bel.setCell (show w.heap.size ≤ X by omega) v⟩
theorem xset {W : World} {X : Nat} (h : W.heap[X]? = some (.cells #[.string ⟨#[]⟩, .string ⟨#[]⟩, .int .i64 0, .slice none 0 0] 25)) (a b : ByteArray) (n : Int) : ((((W.setCell ⟨X, 0, none⟩ (.string a)).setCell ⟨X, 1, none⟩ (.string b)).setCell ⟨X, 2, none⟩ (.int .i64 n)).setCell ⟨X, 3, none⟩ (.slice none 0 0)).heap[X]? = some (.cells #[.string a, .string b, .int .i64 n, .slice none 0 0] 25) := by
  have h1 := heap_setCell_same W X 0 _ _ (.string a) h
  have h2 := heap_setCell_same _ X 1 _ _ (.string b) h1
  have h3 := heap_setCell_same _ X 2 _ _ (.int .i64 n) h2
  have h4 := heap_setCell_same _ X 3 _ _ (.slice none 0 0) h3
  simpa using h4
theorem RH.set4 {w W : World} (h : RH w W) {X : Nat} (hX : w.heap.size < X) (v0 v1 v2 v3 : Value) : RH w ((((W.setCell ⟨X, 0, none⟩ v0).setCell ⟨X, 1, none⟩ v1).setCell ⟨X, 2, none⟩ v2).setCell ⟨X, 3, none⟩ v3) := (((h.set hX 0 _).set hX 1 _).set hX 2 _).set hX 3 _
theorem undrewH {a b : World} (h : Below a.drew.heap.size a.drew b) : Below a.heap.size a b := (Below.refl _ _).drew.trans h
theorem unallocH {a b : World} {o : Obj} (h : Below (a.alloc o).heap.size (a.alloc o) b) : Below a.heap.size a b := ((Below.refl _ _).alloc (Nat.le_refl _) _).trans (h.mono (by simp))
theorem boxNewH {a b : World} {o : Obj} (h : Below (a.alloc o).drew.heap.size (a.alloc o).drew b) : b.heap[a.heap.size]? = some o := (h.block a.heap.size (by show a.heap.size < (a.alloc o).heap.size; simp)).trans (World.alloc_heap_new a o)
theorem boxNewH2 {a b : World} {o : Obj} (h : Below (a.alloc o).heap.size (a.alloc o) b) : b.heap[a.heap.size]? = some o := (h.block a.heap.size (by simp)).trans (World.alloc_heap_new a o)
set_option maxRecDepth 20000 in
set_option maxHeartbeats 4000000 in
theorem headOf_impl (v : Value) (gs : List Seg) (w : World) (h : RowG w v gs) (hB : ∀ g ∈ gs, ∀ e ∈ g.2, ∀ t ∈ e, t.size ≤ 1048576) (hE : ErrsAt w) :
    Calls Tryd.prog 20 #[v] w fun e w' => e = .returned (hdV (hdO gs)) ∧ Below w.heap.size w w' := by
  obtain ⟨A, C, rfl⟩ := h.val
  have hR : RH w (w.alloc (.cells #[.string ⟨#[]⟩, .string ⟨#[]⟩, .int .i64 0, .slice none 0 0, .bool false, .int .i64 0, .int .i64 0] 38)) := ⟨World.alloc_heap_new w _, (Below.refl _ _).alloc (Nat.le_refl _) _⟩
  have hn : gs.length ≤ 9223372036854775807 := h.len
  by_cases h4 : 400 < gs.length
  · have h4' : (400 : Int) < gs.length := by omega
    have HF : Hid (hdO gs = (⟨#[]⟩, ⟨#[]⟩, 0, false, 2)) := by
      cases gs with
      | nil => simp at h4
      | cons g r => exact if_pos (by simpa using h4)
    clear hR h
    go_enter Tryd.func20, Tryd.ntmps20
    go_wp2
    exact bodyPost_ret (v := .agg #[.string ⟨#[]⟩, .string ⟨#[]⟩, .int .i64 0, .slice none 0 0, .bool false, .int .i64 0, .int .i64 2]) (by simp [results, Tryd.results20, go_sem]) rfl ⟨ret_val (by rw [HF.out]; rfl), (Below.refl _ _).alloc (Nat.le_refl _) _⟩
  · have h4' : ¬ (400 : Int) < gs.length := by omega
    cases gs with
    | nil =>
      have HF : Hid (hdO [] = (⟨#[]⟩, ⟨#[]⟩, 0, false, 6)) := rfl
      clear hR h
      go_enter Tryd.func20, Tryd.ntmps20
      go_wp2
      exact bodyPost_ret (v := .agg #[.string ⟨#[]⟩, .string ⟨#[]⟩, .int .i64 0, .slice none 0 0, .bool false, .int .i64 0, .int .i64 6]) (by simp [results, Tryd.results20, go_sem]) rfl ⟨ret_val (by rw [HF.out]; rfl), (Below.refl _ _).alloc (Nat.le_refl _) _⟩
    | cons g r =>
      obtain ⟨tag, es⟩ := g
      have hl : 0 < ((tag, es) :: r).length := by simp
      generalize hgs : (tag, es) :: r = gs at *
      have hO : hdO gs = match hdT tag es with
        | some (a, b, n) => (a, b, n, true, 0)
        | none => (⟨#[]⟩, ⟨#[]⟩, 0, false, 3) := by rw [← hgs]; exact if_neg (by rw [← hgs] at h4; simpa using h4)
      obtain ⟨b, o, cap, g, u, e, hg, c0, c1, hEs, htz⟩ := (h.below ((Below.refl _ _).alloc (Nat.le_refl _) (.cells #[.string ⟨#[]⟩, .string ⟨#[]⟩, .int .i64 0, .slice none 0 0, .bool false, .int .i64 0, .int .i64 0] 38))).at hl
      rw [← hgs] at hg
      simp only [List.getElem?_cons_zero, Option.some.injEq] at hg
      subst hg
      simp only [Value.slice.injEq, true_and] at e
      obtain ⟨rfl, rfl⟩ := e
      obtain ⟨Au, Cu, rfl⟩ := hEs.val
      rw [Nat.zero_mul, Nat.add_zero] at c0 c1
      have hz : ∀ e ∈ es, ∀ t ∈ e, t.size ≤ 1048576 := fun e he t ht => hB (tag, es) (by rw [← hgs]; simp) e he t ht
      dsimp only at c0 c1 hEs
      have hl0 : ¬ (gs.length : Int) = 0 := by omega
      have HR : Hid (RH w (w.alloc (.cells #[.string ⟨#[]⟩, .string ⟨#[]⟩, .int .i64 0, .slice none 0 0, .bool false, .int .i64 0, .int .i64 0] 38)) ∧ RowE (w.alloc (.cells #[.string ⟨#[]⟩, .string ⟨#[]⟩, .int .i64 0, .slice none 0 0, .bool false, .int .i64 0, .int .i64 0] 38)) (.slice Au es.length Cu) es ∧ ErrsAt (w.alloc (.cells #[.string ⟨#[]⟩, .string ⟨#[]⟩, .int .i64 0, .slice none 0 0, .bool false, .int .i64 0, .int .i64 0] 38))) := ⟨hR, hEs, hE.below ((Below.refl _ _).alloc (Nat.le_refl _) _)⟩
      have HO : Hid (hdO gs = match hdT tag es with
        | some (a, b, n) => (a, b, n, true, 0)
        | none => (⟨#[]⟩, ⟨#[]⟩, 0, false, 3)) := hO
      clear hR h hB hE hgs hO hEs
      go_enter Tryd.func20, Tryd.ntmps20
      go_wp2_with fail
      generalize (w.alloc (.cells #[.string ⟨#[]⟩, .string ⟨#[]⟩, .int .i64 0, .slice none 0 0, .bool false, .int .i64 0, .int .i64 0] 38)) = W0 at *
      refine (wordsOf_any tag _ es _ HR.out.2.1).mono ?_
      rintro e w1 ⟨hb1, hw⟩
      have d0 := (hb1.cell (cell_lt c0)).trans c0
      have H1 : Hid (RH w w1 ∧ ErrsAt w1) := ⟨HR.out.1.below hb1, HR.out.2.2.below hb1⟩
      obtain ⟨r0, r1, r2, r3, r4, r5, r6, rz⟩ := H1.out.1.cells
      clear hb1 HR
      by_cases ht : tag = tIXH
      · rcases hw with ⟨a, b', c, q, Cq, hes, rfl, ca, cb, cc⟩ | ⟨hno, rfl⟩
        · have za : a.size ≤ 1048576 := hz [a] (by rw [hes]; simp) a (by simp)
          have zb : b'.size ≤ 1048576 := hz [b'] (by rw [hes]; simp) b' (by simp)
          have zc : c.size ≤ 1048576 := hz [c] (by rw [hes]; simp) c (by simp)
          have HH : Hid (hdT tag es = match numIn c.data.toList 1 999999 with
            | some n => if nameB a && nameB b' then some (a, b', n) else none
            | none => none) := by rw [hes]; exact if_pos ht
          have mT : tag.toList = [73, 88, 72] := by rw [ht, ByteArray.toList_eq]; rfl
          clear hes hz ht
          go_wp2_with fail
          refine (numberWithin_any c 1 999999 _ (by omega) (by omega) (by omega) H1.out.2).mono ?_
          rintro e w2 ⟨rfl, hb2⟩
          have ea := (hb2.cell (cell_lt ca)).trans ca
          have eb := (hb2.cell (cell_lt cb)).trans cb
          have H2 : Hid (RH w w2) := H1.out.1.below hb2
          clear hb2 H1 r0 r1 r2 r3 r4 r5 r6 rz
          cases hN : numIn c.data.toList 1 999999 with
          | none =>
            have HF : Hid (hdO gs = (⟨#[]⟩, ⟨#[]⟩, 0, false, 3)) := by
              rw [HO.out, HH.out, hN]
              exact rfl
            rw [nwV_none hN]
            clear HO HH hN
            go_upto_region 9 with fail
            have HZ : Hid (a.size ≤ 281474976710656 ∧ b'.size ≤ 281474976710656) := ⟨by omega, by omega⟩
            have HK : Hid (∀ W, Below w2.heap.size w2 W → W.cell? ⟨q, 0, none⟩ = some (.string a) ∧ W.cell? ⟨q, 1, none⟩ = some (.string b')) := fun W hW => ⟨(hW.cell (cell_lt ea)).trans ea, (hW.cell (cell_lt eb)).trans eb⟩
            go_cut [7] from 40 to 49 (fun s7 wx => ∃ XX, s7 = .pointer (some ⟨XX, 0, none⟩) ∧ RH w wx ∧ wx.heap[XX]? = some (.cells #[.string a, .string b', .int .i64 0, .slice none 0 0] 25))
            case first =>
              have qn0 : q ≠ w2.heap.size := Nat.ne_of_lt (cell_lt ea)
              have qm0 : w2.heap.size ≠ q := Ne.symm qn0
              obtain ⟨_, _⟩ := HK.out w2.drew (Below.refl _ _).drew
              obtain ⟨_, _⟩ := HK.out (w2.alloc (.cells #[.string ⟨#[]⟩, .string ⟨#[]⟩, .int .i64 0, .slice none 0 0] 25)) ((Below.refl _ _).alloc (Nat.le_refl _) _)
              go_region_held3 (fun W => W.cell? ⟨q, 0, none⟩ = some (.string a) ∧ W.cell? ⟨q, 1, none⟩ = some (.string b')) (go_keep) (first | (go_at_call_of 32 (Value.string a); refine (clone_any _ _ HZ.out.1).mono ?_; rintro e wa ⟨rfl, hba⟩; have ba : Below w2.heap.size w2 wa := (by with_reducible first | exact hba | exact undrewH hba | exact unallocH hba | exact unallocH (undrewH hba)); obtain ⟨a0, a1⟩ := HK.out wa ba; have qn1 : q ≠ wa.heap.size := Nat.ne_of_lt (cell_lt a0); have qm1 : wa.heap.size ≠ q := Ne.symm qn1; obtain ⟨_, _⟩ := HK.out wa.drew ba.drew; obtain ⟨_, _⟩ := HK.out (wa.alloc (.cells #[.string ⟨#[]⟩, .string ⟨#[]⟩, .int .i64 0, .slice none 0 0] 25)) (ba.alloc ba.size _); (try (with_reducible have kx1 := boxNewH hba)); (try (with_reducible have kx1 := boxNewH2 hba)); (try clear hba); try dsimp only) | (go_at_call_of 32 (Value.string b'); refine (clone_any _ _ HZ.out.2).mono ?_; rintro e wb ⟨rfl, hbb⟩; have bb : Below w2.heap.size w2 wb := ba.trans (((by with_reducible first | exact hbb | exact undrewH hbb | exact unallocH hbb | exact unallocH (undrewH hbb)) : Below wa.heap.size wa wb).mono ba.size); obtain ⟨b0, b1⟩ := HK.out wb bb; have qn2 : q ≠ wb.heap.size := Nat.ne_of_lt (cell_lt b0); have qm2 : wb.heap.size ≠ q := Ne.symm qn2; obtain ⟨_, _⟩ := HK.out wb.drew bb.drew; (try (have kx2 := (((by with_reducible first | exact hbb | exact undrewH hbb | exact unallocH hbb | exact unallocH (undrewH hbb)) : Below wa.heap.size wa wb).block _ (Array.getElem?_eq_some_iff.1 kx1).1).trans kx1)); (try (with_reducible have kx2 := boxNewH hbb)); (try (with_reducible have kx2 := boxNewH2 hbb)); (try (have xx := xcells kx2; obtain ⟨x0, x1, x2, x3, xz⟩ := xx)); (try clear hbb); try dsimp only))
              all_goals rename_i hHeld
              all_goals clear hHeld
              all_goals go_wp2_with fail
              all_goals go_meet
              · exact ⟨_, rfl, (H2.out.below bb).below ((Below.refl _ _).alloc (Nat.le_refl _) _), World.alloc_heap_new wb _⟩
              · exact ⟨_, rfl, (H2.out.below bb).set4 (Nat.lt_of_lt_of_le H2.out.lt ba.size) _ _ _ _, xset kx2 a b' _⟩
              · exact ⟨_, rfl, (H2.out.below bb).set4 H2.out.lt _ _ _ _, xset kx2 a b' _⟩
            case rest =>
              obtain ⟨XX, rfl, hRH, hX⟩ := hcut
              rename World => Wf
              have HW : Hid (RH w Wf ∧ Wf.heap[XX]? = some (.cells #[.string a, .string b', .int .i64 0, .slice none 0 0] 25)) := ⟨hRH, hX⟩
              clear hRH hX
              obtain ⟨r0, r1, r2, r3, r4, r5, r6, rz⟩ := HW.out.1.cells
              clear ea eb
              go_wp2
              exact bodyPost_ret (v := .agg #[.string ⟨#[]⟩, .string ⟨#[]⟩, .int .i64 0, .slice none 0 0, .bool false, .int .i64 0, .int .i64 3]) (by simp [results, Tryd.results20, go_sem, r0, r1, r2, r3, r4, r5, r6]) rfl ⟨ret_val (by rw [HF.out]; rfl), (((((((HW.out.1.bel.setCell (Nat.le_refl _) _).setCell (Nat.le_refl _) _).setCell (Nat.le_refl _) _).setCell (Nat.le_refl _) _).setCell (Nat.le_refl _) _).setCell (Nat.le_refl _) _).setCell (Nat.le_refl _) _)⟩
          | some n =>
            obtain ⟨n1, n9⟩ := numIn_bd hN
            have HF : Hid (hdO gs = if (ctlB n && (nameB a && nameB b')) = true then (a, b', n, true, 0) else (⟨#[]⟩, ⟨#[]⟩, 0, false, 3)) := by
              rw [HO.out, HH.out, hN, ctlB_iff.2 ⟨n1, n9⟩, Bool.true_and]
              dsimp only
              cases nameB a && nameB b' <;> rfl
            rw [nwV_some hN]
            clear HO HH hN n1 n9
            go_upto_region 9 with fail
            have HZ : Hid (a.size ≤ 281474976710656 ∧ b'.size ≤ 281474976710656) := ⟨by omega, by omega⟩
            have HK : Hid (∀ W, Below w2.heap.size w2 W → W.cell? ⟨q, 0, none⟩ = some (.string a) ∧ W.cell? ⟨q, 1, none⟩ = some (.string b')) := fun W hW => ⟨(hW.cell (cell_lt ea)).trans ea, (hW.cell (cell_lt eb)).trans eb⟩
            go_cut [7] from 40 to 49 (fun s7 wx => ∃ XX, s7 = .pointer (some ⟨XX, 0, none⟩) ∧ RH w wx ∧ wx.heap[XX]? = some (.cells #[.string a, .string b', .int .i64 n, .slice none 0 0] 25))
            case first =>
              have qn0 : q ≠ w2.heap.size := Nat.ne_of_lt (cell_lt ea)
              have qm0 : w2.heap.size ≠ q := Ne.symm qn0
              obtain ⟨_, _⟩ := HK.out w2.drew (Below.refl _ _).drew
              obtain ⟨_, _⟩ := HK.out (w2.alloc (.cells #[.string ⟨#[]⟩, .string ⟨#[]⟩, .int .i64 0, .slice none 0 0] 25)) ((Below.refl _ _).alloc (Nat.le_refl _) _)
              go_region_held3 (fun W => W.cell? ⟨q, 0, none⟩ = some (.string a) ∧ W.cell? ⟨q, 1, none⟩ = some (.string b')) (go_keep) (first | (go_at_call_of 32 (Value.string a); refine (clone_any _ _ HZ.out.1).mono ?_; rintro e wa ⟨rfl, hba⟩; have ba : Below w2.heap.size w2 wa := (by with_reducible first | exact hba | exact undrewH hba | exact unallocH hba | exact unallocH (undrewH hba)); obtain ⟨a0, a1⟩ := HK.out wa ba; have qn1 : q ≠ wa.heap.size := Nat.ne_of_lt (cell_lt a0); have qm1 : wa.heap.size ≠ q := Ne.symm qn1; obtain ⟨_, _⟩ := HK.out wa.drew ba.drew; obtain ⟨_, _⟩ := HK.out (wa.alloc (.cells #[.string ⟨#[]⟩, .string ⟨#[]⟩, .int .i64 0, .slice none 0 0] 25)) (ba.alloc ba.size _); (try (with_reducible have kx1 := boxNewH hba)); (try (with_reducible have kx1 := boxNewH2 hba)); (try clear hba); try dsimp only) | (go_at_call_of 32 (Value.string b'); refine (clone_any _ _ HZ.out.2).mono ?_; rintro e wb ⟨rfl, hbb⟩; have bb : Below w2.heap.size w2 wb := ba.trans (((by with_reducible first | exact hbb | exact undrewH hbb | exact unallocH hbb | exact unallocH (undrewH hbb)) : Below wa.heap.size wa wb).mono ba.size); obtain ⟨b0, b1⟩ := HK.out wb bb; have qn2 : q ≠ wb.heap.size := Nat.ne_of_lt (cell_lt b0); have qm2 : wb.heap.size ≠ q := Ne.symm qn2; obtain ⟨_, _⟩ := HK.out wb.drew bb.drew; (try (have kx2 := (((by with_reducible first | exact hbb | exact undrewH hbb | exact unallocH hbb | exact unallocH (undrewH hbb)) : Below wa.heap.size wa wb).block _ (Array.getElem?_eq_some_iff.1 kx1).1).trans kx1)); (try (with_reducible have kx2 := boxNewH hbb)); (try (with_reducible have kx2 := boxNewH2 hbb)); (try (have xx := xcells kx2; obtain ⟨x0, x1, x2, x3, xz⟩ := xx)); (try clear hbb); try dsimp only))
              all_goals rename_i hHeld
              all_goals clear hHeld
              all_goals go_wp2_with fail
              all_goals go_meet
              · exact ⟨_, rfl, (H2.out.below bb).below ((Below.refl _ _).alloc (Nat.le_refl _) _), World.alloc_heap_new wb _⟩
              · exact ⟨_, rfl, (H2.out.below bb).set4 (Nat.lt_of_lt_of_le H2.out.lt ba.size) _ _ _ _, xset kx2 a b' _⟩
              · exact ⟨_, rfl, (H2.out.below bb).set4 H2.out.lt _ _ _ _, xset kx2 a b' _⟩
            case rest =>
              obtain ⟨XX, rfl, hRH, hX⟩ := hcut
              rename World => Wf
              have HW : Hid (RH w Wf ∧ Wf.heap[XX]? = some (.cells #[.string a, .string b', .int .i64 n, .slice none 0 0] 25)) := ⟨hRH, hX⟩
              clear hRH hX
              have y0 : Wf.cell? ⟨XX, 0, none⟩ = some (.string a) := by simp [World.cell?, HW.out.2]
              have y1 : Wf.cell? ⟨XX, 1, none⟩ = some (.string b') := by simp [World.cell?, HW.out.2]
              have y2 : Wf.cell? ⟨XX, 2, none⟩ = some (.int .i64 n) := by simp [World.cell?, HW.out.2]
              have y3 : Wf.cell? ⟨XX, 3, none⟩ = some (.slice none 0 0) := by simp [World.cell?, HW.out.2]
              clear ea eb
              go_wp2_with fail
              refine (ixAround_any a b' n none 0 0 _).mono ?_
              rintro e w4 ⟨rfl, hb4⟩
              go_wp2_with fail
              refine (headRight_any n a b' none 0 0 _).mono ?_
              rintro e w5 ⟨rfl, hb5⟩
              have b5 : Below Wf.heap.size Wf w5 := hb4.trans (hb5.mono hb4.size)
              have z0 := (b5.cell (cell_lt y0)).trans y0
              have z1 := (b5.cell (cell_lt y1)).trans y1
              have z2 := (b5.cell (cell_lt y2)).trans y2
              have z3 := (b5.cell (cell_lt y3)).trans y3
              have H5 : Hid (RH w w5) := HW.out.1.below b5
              obtain ⟨r0, r1, r2, r3, r4, r5, r6, rz⟩ := H5.out.cells
              clear b5 hb4 hb5 y0 y1 y2 y3
              cases hc : (ctlB n && (nameB a && nameB b'))
              · have HG : Hid (hdO gs = (⟨#[]⟩, ⟨#[]⟩, 0, false, 3)) := by
                  rw [HF.out, hc]
                  exact rfl
                clear HF hc
                go_wp2
                exact bodyPost_ret (v := .agg #[.string ⟨#[]⟩, .string ⟨#[]⟩, .int .i64 0, .slice none 0 0, .bool false, .int .i64 0, .int .i64 3]) (by simp [results, Tryd.results20, go_sem, r0, r1, r2, r3, r4, r5, r6]) rfl ⟨ret_val (by rw [HG.out]; rfl), (((((((H5.out.bel.setCell (Nat.le_refl _) _).setCell (Nat.le_refl _) _).setCell (Nat.le_refl _) _).setCell (Nat.le_refl _) _).setCell (Nat.le_refl _) _).setCell (Nat.le_refl _) _).setCell (Nat.le_refl _) _)⟩
              · have HG : Hid (hdO gs = (a, b', n, true, 0)) := by
                  rw [HF.out, hc]
                  exact rfl
                clear HF hc
                go_wp2
                exact bodyPost_ret (v := .agg #[.string a, .string b', .int .i64 n, .slice none 0 0, .bool true, .int .i64 0, .int .i64 0]) (by simp [results, Tryd.results20, go_sem, r0, r1, r2, r3, r4, r5, r6]) rfl ⟨ret_val (by rw [HG.out]; rfl), (((((((H5.out.bel.setCell (Nat.le_refl _) _).setCell (Nat.le_refl _) _).setCell (Nat.le_refl _) _).setCell (Nat.le_refl _) _).setCell (Nat.le_refl _) _).setCell (Nat.le_refl _) _).setCell (Nat.le_refl _) _)⟩
        · have HF : Hid (hdO gs = (⟨#[]⟩, ⟨#[]⟩, 0, false, 3)) := by
            have hH : hdT tag es = none := by
              unfold hdT
              rw [if_pos ht]
              split
              · exact absurd rfl (hno _ _ _)
              · rfl
            rw [HO.out, hH]
            exact rfl
          have mT : tag.toList = [73, 88, 72] := by rw [ht, ByteArray.toList_eq]; rfl
          clear hno hz HO ht
          go_wp2
          exact bodyPost_ret (v := .agg #[.string ⟨#[]⟩, .string ⟨#[]⟩, .int .i64 0, .slice none 0 0, .bool false, .int .i64 0, .int .i64 3]) (by simp [results, Tryd.results20, go_sem, r0, r1, r2, r3, r4, r5, r6]) rfl ⟨ret_val (by rw [HF.out]; rfl), (((((((H1.out.1.bel.setCell (Nat.le_refl _) _).setCell (Nat.le_refl _) _).setCell (Nat.le_refl _) _).setCell (Nat.le_refl _) _).setCell (Nat.le_refl _) _).setCell (Nat.le_refl _) _).setCell (Nat.le_refl _) _)⟩
      · have HF : Hid (hdO gs = (⟨#[]⟩, ⟨#[]⟩, 0, false, 3)) := by
          have hH : hdT tag es = none := by unfold hdT; rw [if_neg ht]
          rw [HO.out, hH]
          exact rfl
        obtain ⟨n1, n2, n3⟩ := toList_neq3 (s := tag) (a := 73) (b := 88) (c := 72) ht
        clear HO
        rcases hw with ⟨a, b', c, q, Cq, hes, rfl, ca, cb, cc⟩ | ⟨hno, rfl⟩
        · clear ca cb cc hz hes
          go_wp2
          exact bodyPost_ret (v := .agg #[.string ⟨#[]⟩, .string ⟨#[]⟩, .int .i64 0, .slice none 0 0, .bool false, .int .i64 0, .int .i64 3]) (by simp [results, Tryd.results20, go_sem, r0, r1, r2, r3, r4, r5, r6]) rfl ⟨ret_val (by rw [HF.out]; rfl), (((((((H1.out.1.bel.setCell (Nat.le_refl _) _).setCell (Nat.le_refl _) _).setCell (Nat.le_refl _) _).setCell (Nat.le_refl _) _).setCell (Nat.le_refl _) _).setCell (Nat.le_refl _) _).setCell (Nat.le_refl _) _)⟩
        · clear hno hz
          go_wp2
          exact bodyPost_ret (v := .agg #[.string ⟨#[]⟩, .string ⟨#[]⟩, .int .i64 0, .slice none 0 0, .bool false, .int .i64 0, .int .i64 3]) (by simp [results, Tryd.results20, go_sem, r0, r1, r2, r3, r4, r5, r6]) rfl ⟨ret_val (by rw [HF.out]; rfl), (((((((H1.out.1.bel.setCell (Nat.le_refl _) _).setCell (Nat.le_refl _) _).setCell (Nat.le_refl _) _).setCell (Nat.le_refl _) _).setCell (Nat.le_refl _) _).setCell (Nat.le_refl _) _).setCell (Nat.le_refl _) _)⟩
end Go.Proofs.YtjnikogaleofaaaDoor
