/- Texts of ours put together: SlB. -/
import Derived.Test.YtibjmokhkjklkaaDoorG46
import Derived.Test.YtibjmokhkjklkaaDoorG22
import Derived.Deep.RegionHeld3
import Derived.Deep.RegionLaw
import Derived.Deep.Cut
import Derived.Deep.CutRange
namespace Go.Proofs.YtibjmokhkjklkaaDoor
open Go.ChangeShapes Go.WideShapes Go.ChangeAt Go.RowKit
theorem bd0 (w : World) : Below w.heap.size w w.drew := (Below.refl _ _).drew
theorem bd1 (w : World) (o : Obj) : Below w.heap.size w (w.alloc o).drew := ((Below.refl _ _).alloc (Nat.le_refl _) _).drew
theorem bd2 (w : World) (o p : Obj) : Below w.heap.size w ((w.alloc o).alloc p).drew := (((Below.refl _ _).alloc (Nat.le_refl _) _).alloc (by simp) _).drew
theorem hAlloc8 {W : World} {o o' : Obj} {b : Nat} (h : W.heap[b]? = some o') : (W.alloc o).heap[b]? = some o' := (((Below.refl W.heap.size W).alloc (Nat.le_refl _) o).block b (Array.getElem?_eq_some_iff.1 h).1).trans h
theorem set8O {W : World} {B P : Nat} (v0 v1 v2 v3 v4 v5 v6 v7 : Value) (h : P ≠ B) : ((((((((W.setCell ⟨B, 0, none⟩ v0).setCell ⟨B, 1, none⟩ v1).setCell ⟨B, 2, none⟩ v2).setCell ⟨B, 3, none⟩ v3).setCell ⟨B, 4, none⟩ v4).setCell ⟨B, 5, none⟩ v5).setCell ⟨B, 6, none⟩ v6).setCell ⟨B, 7, none⟩ v7).heap[P]? = W.heap[P]? := by
  rw [heap_setCell_other _ _ _ _ h, heap_setCell_other _ _ _ _ h, heap_setCell_other _ _ _ _ h, heap_setCell_other _ _ _ _ h, heap_setCell_other _ _ _ _ h, heap_setCell_other _ _ _ _ h, heap_setCell_other _ _ _ _ h, heap_setCell_other _ _ _ _ h]
theorem set8B {n B : Nat} {a W : World} (v0 v1 v2 v3 v4 v5 v6 v7 : Value) (h : Below n a W) (hB : n ≤ B) : Below n a ((((((((W.setCell ⟨B, 0, none⟩ v0).setCell ⟨B, 1, none⟩ v1).setCell ⟨B, 2, none⟩ v2).setCell ⟨B, 3, none⟩ v3).setCell ⟨B, 4, none⟩ v4).setCell ⟨B, 5, none⟩ v5).setCell ⟨B, 6, none⟩ v6).setCell ⟨B, 7, none⟩ v7) := (((((((h.setCell hB _).setCell hB _).setCell hB _).setCell hB _).setCell hB _).setCell hB _).setCell hB _).setCell hB _
theorem eqAll {za zb : List Int} {m : Nat} (hm : m = min za.length zb.length) {k : Nat} (hge : m ≤ k) (h : ∀ j, j < k → j < m → za[j]? = zb[j]?) : unlikeT za zb = if za.length = zb.length then -1 else (m : Int) := by
  rw [hm] at hge h ⊢
  exact unlikeT_end fun j hj => h j (by omega) hj
theorem pcZ_take {zs : List Int} {m k i : Nat} (h : k + i < m) : pcZ (zs.take m) k i = (zs[k + i]?).getD 0 := by
  unfold pcZ
  rw [List.getElem?_take, if_pos h]
theorem pcZ_out {zs : List Int} {m k i : Nat} (h : ¬ k + i < m) : pcZ (zs.take m) k i = 0 := by
  unfold pcZ
  rw [List.getElem?_take, if_neg h]
  rfl
theorem same8 {za zb : List Int} {m k : Nat} (hma : m ≤ za.length) (hmb : m ≤ zb.length) (hall : ∀ j, j < k → j < m → za[j]? = zb[j]?) (h : ∀ i, i < 8 → pcZ (za.take m) k i = pcZ (zb.take m) k i) : ∀ j, j < k + 8 → j < m → za[j]? = zb[j]? := by
  intro j hj hjm
  by_cases g : j < k
  · exact hall j g hjm
  · have := h (j - k) (by omega)
    rw [pcZ_take (by omega), pcZ_take (by omega), show k + (j - k) = j by omega] at this
    rw [List.getElem?_eq_getElem (by omega), List.getElem?_eq_getElem (by omega)] at this ⊢
    simpa using this
theorem diff8 {za zb : List Int} {m k i : Nat} (hma : m ≤ za.length) (hmb : m ≤ zb.length) (hall : ∀ j, j < k → j < m → za[j]? = zb[j]?) (_hi : i < 8) (hne : pcZ (za.take m) k i ≠ pcZ (zb.take m) k i) (hlt : ∀ j, j < i → pcZ (za.take m) k j = pcZ (zb.take m) k j) : unlikeT za zb = ((k + i : Nat) : Int) ∧ k + i < m := by
  have hm : k + i < m := by
    by_cases g : k + i < m
    · exact g
    · rw [pcZ_out g, pcZ_out g] at hne
      exact absurd rfl hne
  refine ⟨unlikeT_at (fun j hj => ?_) ?_, hm⟩
  · by_cases g : j < k
    · exact hall j g (by omega)
    · have := hlt (j - k) (by omega)
      rw [pcZ_take (by omega), pcZ_take (by omega), show k + (j - k) = j by omega] at this
      rw [List.getElem?_eq_getElem (by omega), List.getElem?_eq_getElem (by omega)] at this ⊢
      simpa using this
  · rw [pcZ_take hm, pcZ_take hm] at hne
    intro e
    rw [e] at hne
    exact hne rfl
set_option maxRecDepth 100000 in
set_option maxHeartbeats 8000000 in
theorem unlike_impl (za zb : List Int) (a b : Option Addr) (ca cb : Nat) (w : World) (h : RowN w (.slice a za.length ca) za) (h' : RowN w (.slice b zb.length cb) zb) (hca : za.length ≤ ca) (hcb : zb.length ≤ cb) (hl : za.length ≤ 1000000) (_hl' : zb.length ≤ 1000000) (hc1 : ca ≤ 9223372036854775807) (hc2 : cb ≤ 9223372036854775807) :
    Calls Tryd.prog 30 #[.slice a za.length ca, .slice b zb.length cb] w fun e w' => e = .returned (.int .i64 (unlikeT za zb)) ∧ Below w.heap.size w w' := by
  have H : Hid (RowN w (.slice a za.length ca) za ∧ RowN w (.slice b zb.length cb) zb) := ⟨h, h'⟩
  clear h h'
  obtain ⟨m, hm⟩ : ∃ m, m = min za.length zb.length := ⟨_, rfl⟩
  have hma : m ≤ za.length := by omega
  have hmb : m ≤ zb.length := by omega
  have HM : Hid (m = min za.length zb.length) := hm
  clear hm
  go_enter Tryd.func30, Tryd.ntmps30
  go_upto_region 1 with fail
  go_cut [5] from 9 to 13 (fun x wx => x = .int .i64 (m : Int) ∧ w = wx)
  case first =>
    by_cases hmin : (za.length : Int) ≤ (zb.length : Int)
    · go_wp2_with fail
      go_meet
      exact ⟨by rw [HM.out]; congr 1; omega, rfl⟩
    · go_wp2_with fail
      go_meet
      exact ⟨by rw [HM.out]; congr 1; omega, rfl⟩
  case rest =>
  obtain ⟨rfl, rfl⟩ := hcut
  go_wp2_with fail
  go_loopw [6] (fun i wr => ∃ k : Nat, i = .int .i64 (k : Int) ∧ k ≤ m + 8 ∧ (∀ j, j < k → j < m → za[j]? = zb[j]?) ∧ Below w.heap.size w wr) (fun i _ => m + 8 - (intOf i).toNat)
  case atStart => exact ⟨0, rfl, by omega, fun j hj => by omega, Below.refl _ _⟩
  case round =>
    obtain ⟨k, rfl, hk, hall, hb⟩ := hrel
    by_cases hlt : k < m
    · have hlt' : (k : Int) < (m : Int) := by omega
      obtain ⟨b1, o1, c1, z1, e1, _, _⟩ := (H.out.1.below hb).at (k := k) (by omega)
      obtain ⟨b2, o2, c2, z2, e2, _, _⟩ := (H.out.2.below hb).at (k := k) (by omega)
      simp only [Value.slice.injEq, true_and] at e1 e2
      obtain ⟨rfl, rfl⟩ := e1
      obtain ⟨rfl, rfl⟩ := e2
      have QA : ∀ W, Below wr.heap.size wr W → Calls Tryd.prog 42 #[.slice (some ⟨b1, o1, none⟩) m ca, .int .i64 (k : Int)] W fun e w' => e = .returned (.agg #[.int .i64 (pcZ (za.take m) k 0), .int .i64 (pcZ (za.take m) k 1), .int .i64 (pcZ (za.take m) k 2), .int .i64 (pcZ (za.take m) k 3), .int .i64 (pcZ (za.take m) k 4), .int .i64 (pcZ (za.take m) k 5), .int .i64 (pcZ (za.take m) k 6), .int .i64 (pcZ (za.take m) k 7)]) ∧ Below W.heap.size W w' := fun W hW => by
        have hrow := (H.out.1.below hb).below hW
        obtain ⟨a', cap', ee, hc⟩ := hrow.shape
        simp only [Value.slice.injEq, true_and] at ee
        obtain ⟨rfl, rfl⟩ := ee
        obtain ⟨b9, o9, ee, hc⟩ := hc (by intro e; rw [e] at hma; simp at hma; omega)
        cases ee
        have hlm : (za.take m).length = m := by rw [List.length_take]; omega
        have := pieceAt_any (za.take m) b1 o1 ca k W (fun j z hj => by
          rw [List.getElem?_take] at hj
          split at hj
          · exact hc j z hj
          · cases hj) (by omega) (by omega) (by omega)
        rw [hlm] at this
        exact this
      have QB : ∀ W, Below wr.heap.size wr W → Calls Tryd.prog 42 #[.slice (some ⟨b2, o2, none⟩) m cb, .int .i64 (k : Int)] W fun e w' => e = .returned (.agg #[.int .i64 (pcZ (zb.take m) k 0), .int .i64 (pcZ (zb.take m) k 1), .int .i64 (pcZ (zb.take m) k 2), .int .i64 (pcZ (zb.take m) k 3), .int .i64 (pcZ (zb.take m) k 4), .int .i64 (pcZ (zb.take m) k 5), .int .i64 (pcZ (zb.take m) k 6), .int .i64 (pcZ (zb.take m) k 7)]) ∧ Below W.heap.size W w' := fun W hW => by
        have hrow := (H.out.2.below hb).below hW
        obtain ⟨a', cap', ee, hc⟩ := hrow.shape
        simp only [Value.slice.injEq, true_and] at ee
        obtain ⟨rfl, rfl⟩ := ee
        obtain ⟨b9, o9, ee, hc⟩ := hc (by intro e; rw [e] at hmb; simp at hmb; omega)
        cases ee
        have hlm : (zb.take m).length = m := by rw [List.length_take]; omega
        have := pieceAt_any (zb.take m) b2 o2 cb k W (fun j z hj => by
          rw [List.getElem?_take] at hj
          split at hj
          · exact hc j z hj
          · cases hj) (by omega) (by omega) (by omega)
        rw [hlm] at this
        exact this
      obtain ⟨fa, hfa⟩ : ∃ fa, fa = pcZ (za.take m) k := ⟨_, rfl⟩
      obtain ⟨fb, hfb⟩ : ∃ fb, fb = pcZ (zb.take m) k := ⟨_, rfl⟩
      rw [← hfa] at QA
      rw [← hfb] at QB
      have HQA := fun W (h : Below wr.heap.size wr W) => QA W h
      have HI : Hid ((∀ j, j < k → j < m → za[j]? = zb[j]?) ∧ Below w.heap.size w wr ∧ fa = pcZ (za.take m) k ∧ fb = pcZ (zb.take m) k) := ⟨hall, hb, hfa, hfb⟩
      have HQ : Hid ((∀ W, Below wr.heap.size wr W → Calls Tryd.prog 42 #[.slice (some ⟨b1, o1, none⟩) m ca, .int .i64 (k : Int)] W fun e w' => e = .returned (.agg #[.int .i64 (fa 0), .int .i64 (fa 1), .int .i64 (fa 2), .int .i64 (fa 3), .int .i64 (fa 4), .int .i64 (fa 5), .int .i64 (fa 6), .int .i64 (fa 7)]) ∧ Below W.heap.size W w') ∧ (∀ W, Below wr.heap.size wr W → Calls Tryd.prog 42 #[.slice (some ⟨b2, o2, none⟩) m cb, .int .i64 (k : Int)] W fun e w' => e = .returned (.agg #[.int .i64 (fb 0), .int .i64 (fb 1), .int .i64 (fb 2), .int .i64 (fb 3), .int .i64 (fb 4), .int .i64 (fb 5), .int .i64 (fb 6), .int .i64 (fb 7)]) ∧ Below W.heap.size W w')) := ⟨QA, QB⟩
      have j0 : (0 : Int) ≤ (m : Int) := by omega
      have hkm : (m : Int) ≤ (ca : Int) := by omega
      have hkm' : (m : Int) ≤ (cb : Int) := by omega
      clear QA QB HQA hall hb hfa hfb
      go_upto_region 5 with fail
      go_cut [7, 8] from 19 to 28 (fun x7 x8 wx => ∃ P Q, x7 = .pointer (some ⟨P, 0, none⟩) ∧ x8 = .pointer (some ⟨Q, 0, none⟩) ∧ wx.heap[P]? = some (.cells #[.int .i64 (fa 0), .int .i64 (fa 1), .int .i64 (fa 2), .int .i64 (fa 3), .int .i64 (fa 4), .int .i64 (fa 5), .int .i64 (fa 6), .int .i64 (fa 7)] 62) ∧ wx.heap[Q]? = some (.cells #[.int .i64 (fb 0), .int .i64 (fb 1), .int .i64 (fb 2), .int .i64 (fb 3), .int .i64 (fb 4), .int .i64 (fb 5), .int .i64 (fb 6), .int .i64 (fb 7)] 62) ∧ Below wr.heap.size wr wx)
      case first =>
        refine wp_region_held_drew (S := fun _ => True) (by kernel_rfl) ?_ (fun hHeld => ?_)
        · try dsimp only
          all_goals trivial
        refine wpAnyH_take (i := 0) (oi := { dst := some 19, op := Op.move (Operand.tmp 0), type := 24, pos := "l19_seal.go:67", after := #[], guard := none }) (v := ?_) rfl (by kernel_rfl) (by kernel_rfl) (by kernel_rfl) (fun _ _ _ h => h) (Or.inl ⟨by rfl, ?_⟩) (by assumption) ?_
        rotate_left 1
        · intro w hSw
          (try dsimp only at hSw)
          go_simp
          try with_reducible rfl
        try simp only [Act.put, List.setIfInBounds_toArray, List.set_cons_zero, List.set_cons_succ]
        refine wpAnyH_take (i := 1) (oi := { dst := some 20, op := Op.move (Operand.tmp 5), type := 3, pos := "l19_seal.go:67", after := #[], guard := none }) (v := ?_) rfl (by kernel_rfl) (by kernel_rfl) (by kernel_rfl) (fun _ _ _ h => h) (Or.inl ⟨by rfl, ?_⟩) (by assumption) ?_
        rotate_left 1
        · intro w hSw
          (try dsimp only at hSw)
          go_simp
          try with_reducible rfl
        try simp only [Act.put, List.setIfInBounds_toArray, List.set_cons_zero, List.set_cons_succ]
        refine wpAnyH_take (i := 2) (oi := { dst := some 21, op := Op.slice 24 (Operand.tmp 19) none (some (Operand.tmp 20)) none, type := 24, pos := "l19_seal.go:67", after := #[{ on := 0, ground := Ground.data }, { on := 1, ground := Ground.data }], guard := none }) (v := ?_) rfl (by kernel_rfl) (by kernel_rfl) (by kernel_rfl) (fun _ _ _ h => h) (Or.inl ⟨by rfl, ?_⟩) (by assumption) ?_
        rotate_left 1
        · intro w hSw
          (try dsimp only at hSw)
          go_simp
          try with_reducible rfl
        try simp only [Act.put, List.setIfInBounds_toArray, List.set_cons_zero, List.set_cons_succ]
        refine wpAnyH_take (i := 3) (oi := { dst := some 22, op := Op.move (Operand.tmp 6), type := 3, pos := "l19_seal.go:67", after := #[], guard := none }) (v := ?_) rfl (by kernel_rfl) (by kernel_rfl) (by kernel_rfl) (fun _ _ _ h => h) (Or.inl ⟨by rfl, ?_⟩) (by assumption) ?_
        rotate_left 1
        · intro w hSw
          (try dsimp only at hSw)
          go_simp
          try with_reducible rfl
        try simp only [Act.put, List.setIfInBounds_toArray, List.set_cons_zero, List.set_cons_succ]
        refine wpAnyH_take (i := 5) (oi := { dst := some 24, op := Op.move (Operand.tmp 1), type := 24, pos := "l19_seal.go:67", after := #[], guard := none }) (v := ?_) rfl (by kernel_rfl) (by kernel_rfl) (by kernel_rfl) (fun _ _ _ h => h) (Or.inl ⟨by rfl, ?_⟩) (by assumption) ?_
        rotate_left 1
        · intro w hSw
          (try dsimp only at hSw)
          go_simp
          try with_reducible rfl
        try simp only [Act.put, List.setIfInBounds_toArray, List.set_cons_zero, List.set_cons_succ]
        refine wpAnyH_take (i := 6) (oi := { dst := some 25, op := Op.move (Operand.tmp 5), type := 3, pos := "l19_seal.go:67", after := #[], guard := none }) (v := ?_) rfl (by kernel_rfl) (by kernel_rfl) (by kernel_rfl) (fun _ _ _ h => h) (Or.inl ⟨by rfl, ?_⟩) (by assumption) ?_
        rotate_left 1
        · intro w hSw
          (try dsimp only at hSw)
          go_simp
          try with_reducible rfl
        try simp only [Act.put, List.setIfInBounds_toArray, List.set_cons_zero, List.set_cons_succ]
        refine wpAnyH_take (i := 7) (oi := { dst := some 26, op := Op.slice 24 (Operand.tmp 24) none (some (Operand.tmp 25)) none, type := 24, pos := "l19_seal.go:67", after := #[{ on := 5, ground := Ground.data }, { on := 6, ground := Ground.data }], guard := none }) (v := ?_) rfl (by kernel_rfl) (by kernel_rfl) (by kernel_rfl) (fun _ _ _ h => h) (Or.inl ⟨by rfl, ?_⟩) (by assumption) ?_
        rotate_left 1
        · intro w hSw
          (try dsimp only at hSw)
          go_simp
          try with_reducible rfl
        try simp only [Act.put, List.setIfInBounds_toArray, List.set_cons_zero, List.set_cons_succ]
        refine wpAnyH_take (i := 8) (oi := { dst := some 27, op := Op.move (Operand.tmp 6), type := 3, pos := "l19_seal.go:67", after := #[], guard := none }) (v := ?_) rfl (by kernel_rfl) (by kernel_rfl) (by kernel_rfl) (fun _ _ _ h => h) (Or.inl ⟨by rfl, ?_⟩) (by assumption) ?_
        rotate_left 1
        · intro w hSw
          (try dsimp only at hSw)
          go_simp
          try with_reducible rfl
        try simp only [Act.put, List.setIfInBounds_toArray, List.set_cons_zero, List.set_cons_succ]
        refine wpAnyH_ready (rs := [4, 10, 11]) (by kernel_rfl) (by simp) ?_
        refine AllReadyH.cons (o := { dst := some 23, op := Op.call { callee := Callee.value (Operand.func 42), args := #[Operand.tmp 21, Operand.tmp 22], argTypes := #[24, 3] }, type := 62, pos := "l19_seal.go:67", after := #[{ on := 2, ground := Ground.data }, { on := 3, ground := Ground.data }], guard := none }) rfl (fun K hK => ?_) ?_
        · skip
          go_simp
          go_at_call_of 42 (Value.slice (some ⟨b1, o1, none⟩) m ca)
          refine (HQ.out.1 _ (bd0 wr)).mono ?_
          rintro e w1 ⟨rfl, h1⟩
          have bw1 : Below wr.heap.size wr w1 := (bd0 wr).trans (h1.mono (bd0 wr).size)
          clear h1
          try dsimp only
          try go_wp2_with fail
          refine hK.out _ _ ?_ (fun hHeld => ?_)
          · try dsimp only
            all_goals trivial
          clear hK K
          try simp only [Act.put, List.setIfInBounds_toArray, List.set_cons_zero, List.set_cons_succ]
          refine wpAnyH_ready (rs := [9, 10, 11]) (by kernel_rfl) (by simp) ?_
          refine AllReadyH.cons (o := { dst := some 28, op := Op.call { callee := Callee.value (Operand.func 42), args := #[Operand.tmp 26, Operand.tmp 27], argTypes := #[24, 3] }, type := 62, pos := "l19_seal.go:67", after := #[{ on := 7, ground := Ground.data }, { on := 8, ground := Ground.data }, { on := 4, ground := Ground.chain }], guard := none }) rfl (fun K hK => ?_) ?_
          · skip
            go_simp
            go_at_call_of 42 (Value.slice (some ⟨b2, o2, none⟩) m cb)
            refine (HQ.out.2 _ bw1).mono ?_
            rintro e w4 ⟨rfl, h4⟩
            have bw4 : Below wr.heap.size wr w4 := bw1.trans (h4.mono bw1.size)
            clear h4
            try dsimp only
            try go_wp2_with fail
            refine hK.out _ _ ?_ (fun hHeld => ?_)
            · try dsimp only
              all_goals trivial
            clear hK K
            try simp only [Act.put, List.setIfInBounds_toArray, List.set_cons_zero, List.set_cons_succ]
            refine wpAnyH_ready (rs := [10, 11]) (by kernel_rfl) (by simp) ?_
            refine AllReadyH.cons (o := { dst := some 7, op := Op.alloc 62, type := 0, pos := "l19_seal.go:67", after := #[], guard := none }) rfl (fun K hK => ?_) ?_
            · skip
              go_simp
              refine hK.out _ _ ?_ (fun hHeld => ?_)
              · try dsimp only
                all_goals trivial
              clear hK K
              try simp only [Act.put, List.setIfInBounds_toArray, List.set_cons_zero, List.set_cons_succ]
              obtain ⟨w7, e7⟩ : ∃ w7, (w4).alloc (.cells #[.int .i64 0, .int .i64 0, .int .i64 0, .int .i64 0, .int .i64 0, .int .i64 0, .int .i64 0, .int .i64 0] 62) = w7 := ⟨_, rfl⟩
              have bw7 : Below wr.heap.size wr w7 := by rw [← e7]; exact bw4.alloc bw4.size _
              have xP7 : w7.heap[w4.heap.size]? = some (.cells #[.int .i64 0, .int .i64 0, .int .i64 0, .int .i64 0, .int .i64 0, .int .i64 0, .int .i64 0, .int .i64 0] 62) := by rw [← e7]; exact World.alloc_heap_new _ _
              rw [e7]
              clear e7
              refine wpAnyH_ready (rs := [11]) (by kernel_rfl) (by simp) ?_
              refine AllReadyH.cons (o := { dst := some 8, op := Op.alloc 62, type := 0, pos := "l19_seal.go:67", after := #[], guard := none }) rfl (fun K hK => ?_) AllReadyH.nil
              go_simp
              refine hK.out _ _ ?_ (fun hHeld => ?_)
              · try dsimp only
                all_goals trivial
              clear hK K
              try simp only [Act.put, List.setIfInBounds_toArray, List.set_cons_zero, List.set_cons_succ]
              obtain ⟨w9, e9⟩ : ∃ w9, (w7).alloc (.cells #[.int .i64 0, .int .i64 0, .int .i64 0, .int .i64 0, .int .i64 0, .int .i64 0, .int .i64 0, .int .i64 0] 62) = w9 := ⟨_, rfl⟩
              have bw9 : Below wr.heap.size wr w9 := by rw [← e9]; exact bw7.alloc bw7.size _
              have xQ9 : w9.heap[w7.heap.size]? = some (.cells #[.int .i64 0, .int .i64 0, .int .i64 0, .int .i64 0, .int .i64 0, .int .i64 0, .int .i64 0, .int .i64 0] 62) := by rw [← e9]; exact World.alloc_heap_new _ _
              have xP9 : w9.heap[w4.heap.size]? = some (.cells #[.int .i64 0, .int .i64 0, .int .i64 0, .int .i64 0, .int .i64 0, .int .i64 0, .int .i64 0, .int .i64 0] 62) := by rw [← e9]; exact hAlloc8 xP7
              have hne9 : w4.heap.size ≠ w7.heap.size := Nat.ne_of_lt (Array.getElem?_eq_some_iff.1 xP7).1
              rw [e9]
              clear e9
              obtain ⟨fP, p0, p1, p2, p3, p4, p5, p6, p7⟩ := bx8S xP9
              refine wpAnyH_ready (rs := [12]) (by kernel_rfl) (by simp) ?_
              refine AllReadyH.cons (o := { dst := none, op := Op.store 62 (Operand.tmp 7) (Operand.tmp 23), type := 0, pos := "l19_seal.go:67", after := #[{ on := 10, ground := Ground.data }, { on := 4, ground := Ground.data }, { on := 9, ground := Ground.chain }, { on := 0, ground := Ground.phase }, { on := 1, ground := Ground.phase }, { on := 2, ground := Ground.phase }, { on := 3, ground := Ground.phase }, { on := 4, ground := Ground.phase }, { on := 5, ground := Ground.textOnly Departure.lateStores }, { on := 6, ground := Ground.textOnly Departure.lateStores }, { on := 7, ground := Ground.textOnly Departure.lateStoresUnsure }, { on := 8, ground := Ground.textOnly Departure.lateStores }, { on := 9, ground := Ground.textOnly Departure.lateStoresUnsure }, { on := 10, ground := Ground.phase }, { on := 11, ground := Ground.phase }], guard := none }) rfl (fun K hK => ?_) AllReadyH.nil
              go_simp
              refine hK.out _ _ ?_ (fun hHeld => ?_)
              · try dsimp only
                all_goals trivial
              clear hK K
              try simp only [Act.put, List.setIfInBounds_toArray, List.set_cons_zero, List.set_cons_succ]
              have yP := set8S (.int .i64 (fa 0)) (.int .i64 (fa 1)) (.int .i64 (fa 2)) (.int .i64 (fa 3)) (.int .i64 (fa 4)) (.int .i64 (fa 5)) (.int .i64 (fa 6)) (.int .i64 (fa 7)) xP9
              have yQ := (set8O (.int .i64 (fa 0)) (.int .i64 (fa 1)) (.int .i64 (fa 2)) (.int .i64 (fa 3)) (.int .i64 (fa 4)) (.int .i64 (fa 5)) (.int .i64 (fa 6)) (.int .i64 (fa 7)) (Ne.symm (hne9))).trans xQ9
              have yb := set8B (.int .i64 (fa 0)) (.int .i64 (fa 1)) (.int .i64 (fa 2)) (.int .i64 (fa 3)) (.int .i64 (fa 4)) (.int .i64 (fa 5)) (.int .i64 (fa 6)) (.int .i64 (fa 7)) bw9 (bw4).size
              obtain ⟨fQ, q0, q1, q2, q3, q4, q5, q6, q7⟩ := bx8S yQ
              refine wpAnyH_ready (rs := [13]) (by kernel_rfl) (by simp) ?_
              refine AllReadyH.cons (o := { dst := none, op := Op.store 62 (Operand.tmp 8) (Operand.tmp 28), type := 0, pos := "l19_seal.go:67", after := #[{ on := 11, ground := Ground.data }, { on := 9, ground := Ground.data }, { on := 12, ground := Ground.chain }, { on := 0, ground := Ground.phase }, { on := 1, ground := Ground.phase }, { on := 2, ground := Ground.phase }, { on := 3, ground := Ground.phase }, { on := 4, ground := Ground.phase }, { on := 5, ground := Ground.phase }, { on := 6, ground := Ground.phase }, { on := 7, ground := Ground.phase }, { on := 8, ground := Ground.phase }, { on := 9, ground := Ground.phase }, { on := 10, ground := Ground.phase }, { on := 11, ground := Ground.phase }, { on := 12, ground := Ground.phase }], guard := none }) rfl (fun K hK => ?_) AllReadyH.nil
              go_simp
              refine hK.out _ _ ?_ (fun hHeld => ?_)
              · try dsimp only
                all_goals trivial
              clear hK K
              try simp only [Act.put, List.setIfInBounds_toArray, List.set_cons_zero, List.set_cons_succ]
              refine wpAnyH_done (by kernel_rfl) ?_ _
              go_wp2_with fail
              go_meet
              exact ⟨_, _, rfl, rfl, (set8O (.int .i64 (fb 0)) (.int .i64 (fb 1)) (.int .i64 (fb 2)) (.int .i64 (fb 3)) (.int .i64 (fb 4)) (.int .i64 (fb 5)) (.int .i64 (fb 6)) (.int .i64 (fb 7)) (hne9)).trans yP, set8S (.int .i64 (fb 0)) (.int .i64 (fb 1)) (.int .i64 (fb 2)) (.int .i64 (fb 3)) (.int .i64 (fb 4)) (.int .i64 (fb 5)) (.int .i64 (fb 6)) (.int .i64 (fb 7)) yQ, set8B (.int .i64 (fb 0)) (.int .i64 (fb 1)) (.int .i64 (fb 2)) (.int .i64 (fb 3)) (.int .i64 (fb 4)) (.int .i64 (fb 5)) (.int .i64 (fb 6)) (.int .i64 (fb 7)) yb (bw7).size⟩
            refine AllReadyH.cons (o := { dst := some 8, op := Op.alloc 62, type := 0, pos := "l19_seal.go:67", after := #[], guard := none }) rfl (fun K hK => ?_) AllReadyH.nil
            go_simp
            refine hK.out _ _ ?_ (fun hHeld => ?_)
            · try dsimp only
              all_goals trivial
            clear hK K
            try simp only [Act.put, List.setIfInBounds_toArray, List.set_cons_zero, List.set_cons_succ]
            obtain ⟨w8, e8⟩ : ∃ w8, (w4).alloc (.cells #[.int .i64 0, .int .i64 0, .int .i64 0, .int .i64 0, .int .i64 0, .int .i64 0, .int .i64 0, .int .i64 0] 62) = w8 := ⟨_, rfl⟩
            have bw8 : Below wr.heap.size wr w8 := by rw [← e8]; exact bw4.alloc bw4.size _
            have xQ8 : w8.heap[w4.heap.size]? = some (.cells #[.int .i64 0, .int .i64 0, .int .i64 0, .int .i64 0, .int .i64 0, .int .i64 0, .int .i64 0, .int .i64 0] 62) := by rw [← e8]; exact World.alloc_heap_new _ _
            rw [e8]
            clear e8
            refine wpAnyH_ready (rs := [10]) (by kernel_rfl) (by simp) ?_
            refine AllReadyH.cons (o := { dst := some 7, op := Op.alloc 62, type := 0, pos := "l19_seal.go:67", after := #[], guard := none }) rfl (fun K hK => ?_) AllReadyH.nil
            go_simp
            refine hK.out _ _ ?_ (fun hHeld => ?_)
            · try dsimp only
              all_goals trivial
            clear hK K
            try simp only [Act.put, List.setIfInBounds_toArray, List.set_cons_zero, List.set_cons_succ]
            obtain ⟨w10, e10⟩ : ∃ w10, (w8).alloc (.cells #[.int .i64 0, .int .i64 0, .int .i64 0, .int .i64 0, .int .i64 0, .int .i64 0, .int .i64 0, .int .i64 0] 62) = w10 := ⟨_, rfl⟩
            have bw10 : Below wr.heap.size wr w10 := by rw [← e10]; exact bw8.alloc bw8.size _
            have xP10 : w10.heap[w8.heap.size]? = some (.cells #[.int .i64 0, .int .i64 0, .int .i64 0, .int .i64 0, .int .i64 0, .int .i64 0, .int .i64 0, .int .i64 0] 62) := by rw [← e10]; exact World.alloc_heap_new _ _
            have xQ10 : w10.heap[w4.heap.size]? = some (.cells #[.int .i64 0, .int .i64 0, .int .i64 0, .int .i64 0, .int .i64 0, .int .i64 0, .int .i64 0, .int .i64 0] 62) := by rw [← e10]; exact hAlloc8 xQ8
            have hne10 : w4.heap.size ≠ w8.heap.size := Nat.ne_of_lt (Array.getElem?_eq_some_iff.1 xQ8).1
            rw [e10]
            clear e10
            obtain ⟨fP, p0, p1, p2, p3, p4, p5, p6, p7⟩ := bx8S xP10
            refine wpAnyH_ready (rs := [12]) (by kernel_rfl) (by simp) ?_
            refine AllReadyH.cons (o := { dst := none, op := Op.store 62 (Operand.tmp 7) (Operand.tmp 23), type := 0, pos := "l19_seal.go:67", after := #[{ on := 10, ground := Ground.data }, { on := 4, ground := Ground.data }, { on := 9, ground := Ground.chain }, { on := 0, ground := Ground.phase }, { on := 1, ground := Ground.phase }, { on := 2, ground := Ground.phase }, { on := 3, ground := Ground.phase }, { on := 4, ground := Ground.phase }, { on := 5, ground := Ground.textOnly Departure.lateStores }, { on := 6, ground := Ground.textOnly Departure.lateStores }, { on := 7, ground := Ground.textOnly Departure.lateStoresUnsure }, { on := 8, ground := Ground.textOnly Departure.lateStores }, { on := 9, ground := Ground.textOnly Departure.lateStoresUnsure }, { on := 10, ground := Ground.phase }, { on := 11, ground := Ground.phase }], guard := none }) rfl (fun K hK => ?_) AllReadyH.nil
            go_simp
            refine hK.out _ _ ?_ (fun hHeld => ?_)
            · try dsimp only
              all_goals trivial
            clear hK K
            try simp only [Act.put, List.setIfInBounds_toArray, List.set_cons_zero, List.set_cons_succ]
            have yP := set8S (.int .i64 (fa 0)) (.int .i64 (fa 1)) (.int .i64 (fa 2)) (.int .i64 (fa 3)) (.int .i64 (fa 4)) (.int .i64 (fa 5)) (.int .i64 (fa 6)) (.int .i64 (fa 7)) xP10
            have yQ := (set8O (.int .i64 (fa 0)) (.int .i64 (fa 1)) (.int .i64 (fa 2)) (.int .i64 (fa 3)) (.int .i64 (fa 4)) (.int .i64 (fa 5)) (.int .i64 (fa 6)) (.int .i64 (fa 7)) (Ne.symm (hne10.symm))).trans xQ10
            have yb := set8B (.int .i64 (fa 0)) (.int .i64 (fa 1)) (.int .i64 (fa 2)) (.int .i64 (fa 3)) (.int .i64 (fa 4)) (.int .i64 (fa 5)) (.int .i64 (fa 6)) (.int .i64 (fa 7)) bw10 (bw8).size
            obtain ⟨fQ, q0, q1, q2, q3, q4, q5, q6, q7⟩ := bx8S yQ
            refine wpAnyH_ready (rs := [13]) (by kernel_rfl) (by simp) ?_
            refine AllReadyH.cons (o := { dst := none, op := Op.store 62 (Operand.tmp 8) (Operand.tmp 28), type := 0, pos := "l19_seal.go:67", after := #[{ on := 11, ground := Ground.data }, { on := 9, ground := Ground.data }, { on := 12, ground := Ground.chain }, { on := 0, ground := Ground.phase }, { on := 1, ground := Ground.phase }, { on := 2, ground := Ground.phase }, { on := 3, ground := Ground.phase }, { on := 4, ground := Ground.phase }, { on := 5, ground := Ground.phase }, { on := 6, ground := Ground.phase }, { on := 7, ground := Ground.phase }, { on := 8, ground := Ground.phase }, { on := 9, ground := Ground.phase }, { on := 10, ground := Ground.phase }, { on := 11, ground := Ground.phase }, { on := 12, ground := Ground.phase }], guard := none }) rfl (fun K hK => ?_) AllReadyH.nil
            go_simp
            refine hK.out _ _ ?_ (fun hHeld => ?_)
            · try dsimp only
              all_goals trivial
            clear hK K
            try simp only [Act.put, List.setIfInBounds_toArray, List.set_cons_zero, List.set_cons_succ]
            refine wpAnyH_done (by kernel_rfl) ?_ _
            go_wp2_with fail
            go_meet
            exact ⟨_, _, rfl, rfl, (set8O (.int .i64 (fb 0)) (.int .i64 (fb 1)) (.int .i64 (fb 2)) (.int .i64 (fb 3)) (.int .i64 (fb 4)) (.int .i64 (fb 5)) (.int .i64 (fb 6)) (.int .i64 (fb 7)) (hne10.symm)).trans yP, set8S (.int .i64 (fb 0)) (.int .i64 (fb 1)) (.int .i64 (fb 2)) (.int .i64 (fb 3)) (.int .i64 (fb 4)) (.int .i64 (fb 5)) (.int .i64 (fb 6)) (.int .i64 (fb 7)) yQ, set8B (.int .i64 (fb 0)) (.int .i64 (fb 1)) (.int .i64 (fb 2)) (.int .i64 (fb 3)) (.int .i64 (fb 4)) (.int .i64 (fb 5)) (.int .i64 (fb 6)) (.int .i64 (fb 7)) yb (bw4).size⟩
          refine AllReadyH.cons (o := { dst := some 7, op := Op.alloc 62, type := 0, pos := "l19_seal.go:67", after := #[], guard := none }) rfl (fun K hK => ?_) ?_
          · skip
            go_simp
            refine hK.out _ _ ?_ (fun hHeld => ?_)
            · try dsimp only
              all_goals trivial
            clear hK K
            try simp only [Act.put, List.setIfInBounds_toArray, List.set_cons_zero, List.set_cons_succ]
            obtain ⟨w5, e5⟩ : ∃ w5, (w1).alloc (.cells #[.int .i64 0, .int .i64 0, .int .i64 0, .int .i64 0, .int .i64 0, .int .i64 0, .int .i64 0, .int .i64 0] 62) = w5 := ⟨_, rfl⟩
            have bw5 : Below wr.heap.size wr w5 := by rw [← e5]; exact bw1.alloc bw1.size _
            have xP5 : w5.heap[w1.heap.size]? = some (.cells #[.int .i64 0, .int .i64 0, .int .i64 0, .int .i64 0, .int .i64 0, .int .i64 0, .int .i64 0, .int .i64 0] 62) := by rw [← e5]; exact World.alloc_heap_new _ _
            rw [e5]
            clear e5
            refine wpAnyH_ready (rs := [9, 11]) (by kernel_rfl) (by simp) ?_
            refine AllReadyH.cons (o := { dst := some 28, op := Op.call { callee := Callee.value (Operand.func 42), args := #[Operand.tmp 26, Operand.tmp 27], argTypes := #[24, 3] }, type := 62, pos := "l19_seal.go:67", after := #[{ on := 7, ground := Ground.data }, { on := 8, ground := Ground.data }, { on := 4, ground := Ground.chain }], guard := none }) rfl (fun K hK => ?_) ?_
            · skip
              go_simp
              go_at_call_of 42 (Value.slice (some ⟨b2, o2, none⟩) m cb)
              refine (HQ.out.2 _ bw5).mono ?_
              rintro e w11 ⟨rfl, h11⟩
              have bw11 : Below wr.heap.size wr w11 := bw5.trans (h11.mono bw5.size)
              have xP11 := (h11.block _ (Array.getElem?_eq_some_iff.1 xP5).1).trans xP5
              clear h11
              try dsimp only
              try go_wp2_with fail
              refine hK.out _ _ ?_ (fun hHeld => ?_)
              · try dsimp only
                all_goals trivial
              clear hK K
              try simp only [Act.put, List.setIfInBounds_toArray, List.set_cons_zero, List.set_cons_succ]
              refine wpAnyH_ready (rs := [11]) (by kernel_rfl) (by simp) ?_
              refine AllReadyH.cons (o := { dst := some 8, op := Op.alloc 62, type := 0, pos := "l19_seal.go:67", after := #[], guard := none }) rfl (fun K hK => ?_) AllReadyH.nil
              go_simp
              refine hK.out _ _ ?_ (fun hHeld => ?_)
              · try dsimp only
                all_goals trivial
              clear hK K
              try simp only [Act.put, List.setIfInBounds_toArray, List.set_cons_zero, List.set_cons_succ]
              obtain ⟨w13, e13⟩ : ∃ w13, (w11).alloc (.cells #[.int .i64 0, .int .i64 0, .int .i64 0, .int .i64 0, .int .i64 0, .int .i64 0, .int .i64 0, .int .i64 0] 62) = w13 := ⟨_, rfl⟩
              have bw13 : Below wr.heap.size wr w13 := by rw [← e13]; exact bw11.alloc bw11.size _
              have xQ13 : w13.heap[w11.heap.size]? = some (.cells #[.int .i64 0, .int .i64 0, .int .i64 0, .int .i64 0, .int .i64 0, .int .i64 0, .int .i64 0, .int .i64 0] 62) := by rw [← e13]; exact World.alloc_heap_new _ _
              have xP13 : w13.heap[w1.heap.size]? = some (.cells #[.int .i64 0, .int .i64 0, .int .i64 0, .int .i64 0, .int .i64 0, .int .i64 0, .int .i64 0, .int .i64 0] 62) := by rw [← e13]; exact hAlloc8 xP11
              have hne13 : w1.heap.size ≠ w11.heap.size := Nat.ne_of_lt (Array.getElem?_eq_some_iff.1 xP11).1
              rw [e13]
              clear e13
              obtain ⟨fP, p0, p1, p2, p3, p4, p5, p6, p7⟩ := bx8S xP13
              refine wpAnyH_ready (rs := [12]) (by kernel_rfl) (by simp) ?_
              refine AllReadyH.cons (o := { dst := none, op := Op.store 62 (Operand.tmp 7) (Operand.tmp 23), type := 0, pos := "l19_seal.go:67", after := #[{ on := 10, ground := Ground.data }, { on := 4, ground := Ground.data }, { on := 9, ground := Ground.chain }, { on := 0, ground := Ground.phase }, { on := 1, ground := Ground.phase }, { on := 2, ground := Ground.phase }, { on := 3, ground := Ground.phase }, { on := 4, ground := Ground.phase }, { on := 5, ground := Ground.textOnly Departure.lateStores }, { on := 6, ground := Ground.textOnly Departure.lateStores }, { on := 7, ground := Ground.textOnly Departure.lateStoresUnsure }, { on := 8, ground := Ground.textOnly Departure.lateStores }, { on := 9, ground := Ground.textOnly Departure.lateStoresUnsure }, { on := 10, ground := Ground.phase }, { on := 11, ground := Ground.phase }], guard := none }) rfl (fun K hK => ?_) AllReadyH.nil
              go_simp
              refine hK.out _ _ ?_ (fun hHeld => ?_)
              · try dsimp only
                all_goals trivial
              clear hK K
              try simp only [Act.put, List.setIfInBounds_toArray, List.set_cons_zero, List.set_cons_succ]
              have yP := set8S (.int .i64 (fa 0)) (.int .i64 (fa 1)) (.int .i64 (fa 2)) (.int .i64 (fa 3)) (.int .i64 (fa 4)) (.int .i64 (fa 5)) (.int .i64 (fa 6)) (.int .i64 (fa 7)) xP13
              have yQ := (set8O (.int .i64 (fa 0)) (.int .i64 (fa 1)) (.int .i64 (fa 2)) (.int .i64 (fa 3)) (.int .i64 (fa 4)) (.int .i64 (fa 5)) (.int .i64 (fa 6)) (.int .i64 (fa 7)) (Ne.symm (hne13))).trans xQ13
              have yb := set8B (.int .i64 (fa 0)) (.int .i64 (fa 1)) (.int .i64 (fa 2)) (.int .i64 (fa 3)) (.int .i64 (fa 4)) (.int .i64 (fa 5)) (.int .i64 (fa 6)) (.int .i64 (fa 7)) bw13 (bw1).size
              obtain ⟨fQ, q0, q1, q2, q3, q4, q5, q6, q7⟩ := bx8S yQ
              refine wpAnyH_ready (rs := [13]) (by kernel_rfl) (by simp) ?_
              refine AllReadyH.cons (o := { dst := none, op := Op.store 62 (Operand.tmp 8) (Operand.tmp 28), type := 0, pos := "l19_seal.go:67", after := #[{ on := 11, ground := Ground.data }, { on := 9, ground := Ground.data }, { on := 12, ground := Ground.chain }, { on := 0, ground := Ground.phase }, { on := 1, ground := Ground.phase }, { on := 2, ground := Ground.phase }, { on := 3, ground := Ground.phase }, { on := 4, ground := Ground.phase }, { on := 5, ground := Ground.phase }, { on := 6, ground := Ground.phase }, { on := 7, ground := Ground.phase }, { on := 8, ground := Ground.phase }, { on := 9, ground := Ground.phase }, { on := 10, ground := Ground.phase }, { on := 11, ground := Ground.phase }, { on := 12, ground := Ground.phase }], guard := none }) rfl (fun K hK => ?_) AllReadyH.nil
              go_simp
              refine hK.out _ _ ?_ (fun hHeld => ?_)
              · try dsimp only
                all_goals trivial
              clear hK K
              try simp only [Act.put, List.setIfInBounds_toArray, List.set_cons_zero, List.set_cons_succ]
              refine wpAnyH_done (by kernel_rfl) ?_ _
              go_wp2_with fail
              go_meet
              exact ⟨_, _, rfl, rfl, (set8O (.int .i64 (fb 0)) (.int .i64 (fb 1)) (.int .i64 (fb 2)) (.int .i64 (fb 3)) (.int .i64 (fb 4)) (.int .i64 (fb 5)) (.int .i64 (fb 6)) (.int .i64 (fb 7)) (hne13)).trans yP, set8S (.int .i64 (fb 0)) (.int .i64 (fb 1)) (.int .i64 (fb 2)) (.int .i64 (fb 3)) (.int .i64 (fb 4)) (.int .i64 (fb 5)) (.int .i64 (fb 6)) (.int .i64 (fb 7)) yQ, set8B (.int .i64 (fb 0)) (.int .i64 (fb 1)) (.int .i64 (fb 2)) (.int .i64 (fb 3)) (.int .i64 (fb 4)) (.int .i64 (fb 5)) (.int .i64 (fb 6)) (.int .i64 (fb 7)) yb (bw11).size⟩
            refine AllReadyH.cons (o := { dst := some 8, op := Op.alloc 62, type := 0, pos := "l19_seal.go:67", after := #[], guard := none }) rfl (fun K hK => ?_) AllReadyH.nil
            go_simp
            refine hK.out _ _ ?_ (fun hHeld => ?_)
            · try dsimp only
              all_goals trivial
            clear hK K
            try simp only [Act.put, List.setIfInBounds_toArray, List.set_cons_zero, List.set_cons_succ]
            obtain ⟨w12, e12⟩ : ∃ w12, (w5).alloc (.cells #[.int .i64 0, .int .i64 0, .int .i64 0, .int .i64 0, .int .i64 0, .int .i64 0, .int .i64 0, .int .i64 0] 62) = w12 := ⟨_, rfl⟩
            have bw12 : Below wr.heap.size wr w12 := by rw [← e12]; exact bw5.alloc bw5.size _
            have xQ12 : w12.heap[w5.heap.size]? = some (.cells #[.int .i64 0, .int .i64 0, .int .i64 0, .int .i64 0, .int .i64 0, .int .i64 0, .int .i64 0, .int .i64 0] 62) := by rw [← e12]; exact World.alloc_heap_new _ _
            have xP12 : w12.heap[w1.heap.size]? = some (.cells #[.int .i64 0, .int .i64 0, .int .i64 0, .int .i64 0, .int .i64 0, .int .i64 0, .int .i64 0, .int .i64 0] 62) := by rw [← e12]; exact hAlloc8 xP5
            have hne12 : w1.heap.size ≠ w5.heap.size := Nat.ne_of_lt (Array.getElem?_eq_some_iff.1 xP5).1
            rw [e12]
            clear e12
            refine wpAnyH_ready (rs := [9]) (by kernel_rfl) (by simp) ?_
            refine AllReadyH.cons (o := { dst := some 28, op := Op.call { callee := Callee.value (Operand.func 42), args := #[Operand.tmp 26, Operand.tmp 27], argTypes := #[24, 3] }, type := 62, pos := "l19_seal.go:67", after := #[{ on := 7, ground := Ground.data }, { on := 8, ground := Ground.data }, { on := 4, ground := Ground.chain }], guard := none }) rfl (fun K hK => ?_) AllReadyH.nil
            go_simp
            go_at_call_of 42 (Value.slice (some ⟨b2, o2, none⟩) m cb)
            refine (HQ.out.2 _ bw12).mono ?_
            rintro e w14 ⟨rfl, h14⟩
            have bw14 : Below wr.heap.size wr w14 := bw12.trans (h14.mono bw12.size)
            have xP14 := (h14.block _ (Array.getElem?_eq_some_iff.1 xP12).1).trans xP12
            have xQ14 := (h14.block _ (Array.getElem?_eq_some_iff.1 xQ12).1).trans xQ12
            clear h14
            try dsimp only
            try go_wp2_with fail
            refine hK.out _ _ ?_ (fun hHeld => ?_)
            · try dsimp only
              all_goals trivial
            clear hK K
            try simp only [Act.put, List.setIfInBounds_toArray, List.set_cons_zero, List.set_cons_succ]
            obtain ⟨fP, p0, p1, p2, p3, p4, p5, p6, p7⟩ := bx8S xP14
            refine wpAnyH_ready (rs := [12]) (by kernel_rfl) (by simp) ?_
            refine AllReadyH.cons (o := { dst := none, op := Op.store 62 (Operand.tmp 7) (Operand.tmp 23), type := 0, pos := "l19_seal.go:67", after := #[{ on := 10, ground := Ground.data }, { on := 4, ground := Ground.data }, { on := 9, ground := Ground.chain }, { on := 0, ground := Ground.phase }, { on := 1, ground := Ground.phase }, { on := 2, ground := Ground.phase }, { on := 3, ground := Ground.phase }, { on := 4, ground := Ground.phase }, { on := 5, ground := Ground.textOnly Departure.lateStores }, { on := 6, ground := Ground.textOnly Departure.lateStores }, { on := 7, ground := Ground.textOnly Departure.lateStoresUnsure }, { on := 8, ground := Ground.textOnly Departure.lateStores }, { on := 9, ground := Ground.textOnly Departure.lateStoresUnsure }, { on := 10, ground := Ground.phase }, { on := 11, ground := Ground.phase }], guard := none }) rfl (fun K hK => ?_) AllReadyH.nil
            go_simp
            refine hK.out _ _ ?_ (fun hHeld => ?_)
            · try dsimp only
              all_goals trivial
            clear hK K
            try simp only [Act.put, List.setIfInBounds_toArray, List.set_cons_zero, List.set_cons_succ]
            have yP := set8S (.int .i64 (fa 0)) (.int .i64 (fa 1)) (.int .i64 (fa 2)) (.int .i64 (fa 3)) (.int .i64 (fa 4)) (.int .i64 (fa 5)) (.int .i64 (fa 6)) (.int .i64 (fa 7)) xP14
            have yQ := (set8O (.int .i64 (fa 0)) (.int .i64 (fa 1)) (.int .i64 (fa 2)) (.int .i64 (fa 3)) (.int .i64 (fa 4)) (.int .i64 (fa 5)) (.int .i64 (fa 6)) (.int .i64 (fa 7)) (Ne.symm (hne12))).trans xQ14
            have yb := set8B (.int .i64 (fa 0)) (.int .i64 (fa 1)) (.int .i64 (fa 2)) (.int .i64 (fa 3)) (.int .i64 (fa 4)) (.int .i64 (fa 5)) (.int .i64 (fa 6)) (.int .i64 (fa 7)) bw14 (bw1).size
            obtain ⟨fQ, q0, q1, q2, q3, q4, q5, q6, q7⟩ := bx8S yQ
            refine wpAnyH_ready (rs := [13]) (by kernel_rfl) (by simp) ?_
            refine AllReadyH.cons (o := { dst := none, op := Op.store 62 (Operand.tmp 8) (Operand.tmp 28), type := 0, pos := "l19_seal.go:67", after := #[{ on := 11, ground := Ground.data }, { on := 9, ground := Ground.data }, { on := 12, ground := Ground.chain }, { on := 0, ground := Ground.phase }, { on := 1, ground := Ground.phase }, { on := 2, ground := Ground.phase }, { on := 3, ground := Ground.phase }, { on := 4, ground := Ground.phase }, { on := 5, ground := Ground.phase }, { on := 6, ground := Ground.phase }, { on := 7, ground := Ground.phase }, { on := 8, ground := Ground.phase }, { on := 9, ground := Ground.phase }, { on := 10, ground := Ground.phase }, { on := 11, ground := Ground.phase }, { on := 12, ground := Ground.phase }], guard := none }) rfl (fun K hK => ?_) AllReadyH.nil
            go_simp
            refine hK.out _ _ ?_ (fun hHeld => ?_)
            · try dsimp only
              all_goals trivial
            clear hK K
            try simp only [Act.put, List.setIfInBounds_toArray, List.set_cons_zero, List.set_cons_succ]
            refine wpAnyH_done (by kernel_rfl) ?_ _
            go_wp2_with fail
            go_meet
            exact ⟨_, _, rfl, rfl, (set8O (.int .i64 (fb 0)) (.int .i64 (fb 1)) (.int .i64 (fb 2)) (.int .i64 (fb 3)) (.int .i64 (fb 4)) (.int .i64 (fb 5)) (.int .i64 (fb 6)) (.int .i64 (fb 7)) (hne12)).trans yP, set8S (.int .i64 (fb 0)) (.int .i64 (fb 1)) (.int .i64 (fb 2)) (.int .i64 (fb 3)) (.int .i64 (fb 4)) (.int .i64 (fb 5)) (.int .i64 (fb 6)) (.int .i64 (fb 7)) yQ, set8B (.int .i64 (fb 0)) (.int .i64 (fb 1)) (.int .i64 (fb 2)) (.int .i64 (fb 3)) (.int .i64 (fb 4)) (.int .i64 (fb 5)) (.int .i64 (fb 6)) (.int .i64 (fb 7)) yb (bw5).size⟩
          refine AllReadyH.cons (o := { dst := some 8, op := Op.alloc 62, type := 0, pos := "l19_seal.go:67", after := #[], guard := none }) rfl (fun K hK => ?_) AllReadyH.nil
          go_simp
          refine hK.out _ _ ?_ (fun hHeld => ?_)
          · try dsimp only
            all_goals trivial
          clear hK K
          try simp only [Act.put, List.setIfInBounds_toArray, List.set_cons_zero, List.set_cons_succ]
          obtain ⟨w6, e6⟩ : ∃ w6, (w1).alloc (.cells #[.int .i64 0, .int .i64 0, .int .i64 0, .int .i64 0, .int .i64 0, .int .i64 0, .int .i64 0, .int .i64 0] 62) = w6 := ⟨_, rfl⟩
          have bw6 : Below wr.heap.size wr w6 := by rw [← e6]; exact bw1.alloc bw1.size _
          have xQ6 : w6.heap[w1.heap.size]? = some (.cells #[.int .i64 0, .int .i64 0, .int .i64 0, .int .i64 0, .int .i64 0, .int .i64 0, .int .i64 0, .int .i64 0] 62) := by rw [← e6]; exact World.alloc_heap_new _ _
          rw [e6]
          clear e6
          refine wpAnyH_ready (rs := [9, 10]) (by kernel_rfl) (by simp) ?_
          refine AllReadyH.cons (o := { dst := some 28, op := Op.call { callee := Callee.value (Operand.func 42), args := #[Operand.tmp 26, Operand.tmp 27], argTypes := #[24, 3] }, type := 62, pos := "l19_seal.go:67", after := #[{ on := 7, ground := Ground.data }, { on := 8, ground := Ground.data }, { on := 4, ground := Ground.chain }], guard := none }) rfl (fun K hK => ?_) ?_
          · skip
            go_simp
            go_at_call_of 42 (Value.slice (some ⟨b2, o2, none⟩) m cb)
            refine (HQ.out.2 _ bw6).mono ?_
            rintro e w15 ⟨rfl, h15⟩
            have bw15 : Below wr.heap.size wr w15 := bw6.trans (h15.mono bw6.size)
            have xQ15 := (h15.block _ (Array.getElem?_eq_some_iff.1 xQ6).1).trans xQ6
            clear h15
            try dsimp only
            try go_wp2_with fail
            refine hK.out _ _ ?_ (fun hHeld => ?_)
            · try dsimp only
              all_goals trivial
            clear hK K
            try simp only [Act.put, List.setIfInBounds_toArray, List.set_cons_zero, List.set_cons_succ]
            refine wpAnyH_ready (rs := [10]) (by kernel_rfl) (by simp) ?_
            refine AllReadyH.cons (o := { dst := some 7, op := Op.alloc 62, type := 0, pos := "l19_seal.go:67", after := #[], guard := none }) rfl (fun K hK => ?_) AllReadyH.nil
            go_simp
            refine hK.out _ _ ?_ (fun hHeld => ?_)
            · try dsimp only
              all_goals trivial
            clear hK K
            try simp only [Act.put, List.setIfInBounds_toArray, List.set_cons_zero, List.set_cons_succ]
            obtain ⟨w17, e17⟩ : ∃ w17, (w15).alloc (.cells #[.int .i64 0, .int .i64 0, .int .i64 0, .int .i64 0, .int .i64 0, .int .i64 0, .int .i64 0, .int .i64 0] 62) = w17 := ⟨_, rfl⟩
            have bw17 : Below wr.heap.size wr w17 := by rw [← e17]; exact bw15.alloc bw15.size _
            have xP17 : w17.heap[w15.heap.size]? = some (.cells #[.int .i64 0, .int .i64 0, .int .i64 0, .int .i64 0, .int .i64 0, .int .i64 0, .int .i64 0, .int .i64 0] 62) := by rw [← e17]; exact World.alloc_heap_new _ _
            have xQ17 : w17.heap[w1.heap.size]? = some (.cells #[.int .i64 0, .int .i64 0, .int .i64 0, .int .i64 0, .int .i64 0, .int .i64 0, .int .i64 0, .int .i64 0] 62) := by rw [← e17]; exact hAlloc8 xQ15
            have hne17 : w1.heap.size ≠ w15.heap.size := Nat.ne_of_lt (Array.getElem?_eq_some_iff.1 xQ15).1
            rw [e17]
            clear e17
            obtain ⟨fP, p0, p1, p2, p3, p4, p5, p6, p7⟩ := bx8S xP17
            refine wpAnyH_ready (rs := [12]) (by kernel_rfl) (by simp) ?_
            refine AllReadyH.cons (o := { dst := none, op := Op.store 62 (Operand.tmp 7) (Operand.tmp 23), type := 0, pos := "l19_seal.go:67", after := #[{ on := 10, ground := Ground.data }, { on := 4, ground := Ground.data }, { on := 9, ground := Ground.chain }, { on := 0, ground := Ground.phase }, { on := 1, ground := Ground.phase }, { on := 2, ground := Ground.phase }, { on := 3, ground := Ground.phase }, { on := 4, ground := Ground.phase }, { on := 5, ground := Ground.textOnly Departure.lateStores }, { on := 6, ground := Ground.textOnly Departure.lateStores }, { on := 7, ground := Ground.textOnly Departure.lateStoresUnsure }, { on := 8, ground := Ground.textOnly Departure.lateStores }, { on := 9, ground := Ground.textOnly Departure.lateStoresUnsure }, { on := 10, ground := Ground.phase }, { on := 11, ground := Ground.phase }], guard := none }) rfl (fun K hK => ?_) AllReadyH.nil
            go_simp
            refine hK.out _ _ ?_ (fun hHeld => ?_)
            · try dsimp only
              all_goals trivial
            clear hK K
            try simp only [Act.put, List.setIfInBounds_toArray, List.set_cons_zero, List.set_cons_succ]
            have yP := set8S (.int .i64 (fa 0)) (.int .i64 (fa 1)) (.int .i64 (fa 2)) (.int .i64 (fa 3)) (.int .i64 (fa 4)) (.int .i64 (fa 5)) (.int .i64 (fa 6)) (.int .i64 (fa 7)) xP17
            have yQ := (set8O (.int .i64 (fa 0)) (.int .i64 (fa 1)) (.int .i64 (fa 2)) (.int .i64 (fa 3)) (.int .i64 (fa 4)) (.int .i64 (fa 5)) (.int .i64 (fa 6)) (.int .i64 (fa 7)) (Ne.symm (hne17.symm))).trans xQ17
            have yb := set8B (.int .i64 (fa 0)) (.int .i64 (fa 1)) (.int .i64 (fa 2)) (.int .i64 (fa 3)) (.int .i64 (fa 4)) (.int .i64 (fa 5)) (.int .i64 (fa 6)) (.int .i64 (fa 7)) bw17 (bw15).size
            obtain ⟨fQ, q0, q1, q2, q3, q4, q5, q6, q7⟩ := bx8S yQ
            refine wpAnyH_ready (rs := [13]) (by kernel_rfl) (by simp) ?_
            refine AllReadyH.cons (o := { dst := none, op := Op.store 62 (Operand.tmp 8) (Operand.tmp 28), type := 0, pos := "l19_seal.go:67", after := #[{ on := 11, ground := Ground.data }, { on := 9, ground := Ground.data }, { on := 12, ground := Ground.chain }, { on := 0, ground := Ground.phase }, { on := 1, ground := Ground.phase }, { on := 2, ground := Ground.phase }, { on := 3, ground := Ground.phase }, { on := 4, ground := Ground.phase }, { on := 5, ground := Ground.phase }, { on := 6, ground := Ground.phase }, { on := 7, ground := Ground.phase }, { on := 8, ground := Ground.phase }, { on := 9, ground := Ground.phase }, { on := 10, ground := Ground.phase }, { on := 11, ground := Ground.phase }, { on := 12, ground := Ground.phase }], guard := none }) rfl (fun K hK => ?_) AllReadyH.nil
            go_simp
            refine hK.out _ _ ?_ (fun hHeld => ?_)
            · try dsimp only
              all_goals trivial
            clear hK K
            try simp only [Act.put, List.setIfInBounds_toArray, List.set_cons_zero, List.set_cons_succ]
            refine wpAnyH_done (by kernel_rfl) ?_ _
            go_wp2_with fail
            go_meet
            exact ⟨_, _, rfl, rfl, (set8O (.int .i64 (fb 0)) (.int .i64 (fb 1)) (.int .i64 (fb 2)) (.int .i64 (fb 3)) (.int .i64 (fb 4)) (.int .i64 (fb 5)) (.int .i64 (fb 6)) (.int .i64 (fb 7)) (hne17.symm)).trans yP, set8S (.int .i64 (fb 0)) (.int .i64 (fb 1)) (.int .i64 (fb 2)) (.int .i64 (fb 3)) (.int .i64 (fb 4)) (.int .i64 (fb 5)) (.int .i64 (fb 6)) (.int .i64 (fb 7)) yQ, set8B (.int .i64 (fb 0)) (.int .i64 (fb 1)) (.int .i64 (fb 2)) (.int .i64 (fb 3)) (.int .i64 (fb 4)) (.int .i64 (fb 5)) (.int .i64 (fb 6)) (.int .i64 (fb 7)) yb (bw1).size⟩
          refine AllReadyH.cons (o := { dst := some 7, op := Op.alloc 62, type := 0, pos := "l19_seal.go:67", after := #[], guard := none }) rfl (fun K hK => ?_) AllReadyH.nil
          go_simp
          refine hK.out _ _ ?_ (fun hHeld => ?_)
          · try dsimp only
            all_goals trivial
          clear hK K
          try simp only [Act.put, List.setIfInBounds_toArray, List.set_cons_zero, List.set_cons_succ]
          obtain ⟨w16, e16⟩ : ∃ w16, (w6).alloc (.cells #[.int .i64 0, .int .i64 0, .int .i64 0, .int .i64 0, .int .i64 0, .int .i64 0, .int .i64 0, .int .i64 0] 62) = w16 := ⟨_, rfl⟩
          have bw16 : Below wr.heap.size wr w16 := by rw [← e16]; exact bw6.alloc bw6.size _
          have xP16 : w16.heap[w6.heap.size]? = some (.cells #[.int .i64 0, .int .i64 0, .int .i64 0, .int .i64 0, .int .i64 0, .int .i64 0, .int .i64 0, .int .i64 0] 62) := by rw [← e16]; exact World.alloc_heap_new _ _
          have xQ16 : w16.heap[w1.heap.size]? = some (.cells #[.int .i64 0, .int .i64 0, .int .i64 0, .int .i64 0, .int .i64 0, .int .i64 0, .int .i64 0, .int .i64 0] 62) := by rw [← e16]; exact hAlloc8 xQ6
          have hne16 : w1.heap.size ≠ w6.heap.size := Nat.ne_of_lt (Array.getElem?_eq_some_iff.1 xQ6).1
          rw [e16]
          clear e16
          refine wpAnyH_ready (rs := [9]) (by kernel_rfl) (by simp) ?_
          refine AllReadyH.cons (o := { dst := some 28, op := Op.call { callee := Callee.value (Operand.func 42), args := #[Operand.tmp 26, Operand.tmp 27], argTypes := #[24, 3] }, type := 62, pos := "l19_seal.go:67", after := #[{ on := 7, ground := Ground.data }, { on := 8, ground := Ground.data }, { on := 4, ground := Ground.chain }], guard := none }) rfl (fun K hK => ?_) AllReadyH.nil
          go_simp
          go_at_call_of 42 (Value.slice (some ⟨b2, o2, none⟩) m cb)
          refine (HQ.out.2 _ bw16).mono ?_
          rintro e w18 ⟨rfl, h18⟩
          have bw18 : Below wr.heap.size wr w18 := bw16.trans (h18.mono bw16.size)
          have xP18 := (h18.block _ (Array.getElem?_eq_some_iff.1 xP16).1).trans xP16
          have xQ18 := (h18.block _ (Array.getElem?_eq_some_iff.1 xQ16).1).trans xQ16
          clear h18
          try dsimp only
          try go_wp2_with fail
          refine hK.out _ _ ?_ (fun hHeld => ?_)
          · try dsimp only
            all_goals trivial
          clear hK K
          try simp only [Act.put, List.setIfInBounds_toArray, List.set_cons_zero, List.set_cons_succ]
          obtain ⟨fP, p0, p1, p2, p3, p4, p5, p6, p7⟩ := bx8S xP18
          refine wpAnyH_ready (rs := [12]) (by kernel_rfl) (by simp) ?_
          refine AllReadyH.cons (o := { dst := none, op := Op.store 62 (Operand.tmp 7) (Operand.tmp 23), type := 0, pos := "l19_seal.go:67", after := #[{ on := 10, ground := Ground.data }, { on := 4, ground := Ground.data }, { on := 9, ground := Ground.chain }, { on := 0, ground := Ground.phase }, { on := 1, ground := Ground.phase }, { on := 2, ground := Ground.phase }, { on := 3, ground := Ground.phase }, { on := 4, ground := Ground.phase }, { on := 5, ground := Ground.textOnly Departure.lateStores }, { on := 6, ground := Ground.textOnly Departure.lateStores }, { on := 7, ground := Ground.textOnly Departure.lateStoresUnsure }, { on := 8, ground := Ground.textOnly Departure.lateStores }, { on := 9, ground := Ground.textOnly Departure.lateStoresUnsure }, { on := 10, ground := Ground.phase }, { on := 11, ground := Ground.phase }], guard := none }) rfl (fun K hK => ?_) AllReadyH.nil
          go_simp
          refine hK.out _ _ ?_ (fun hHeld => ?_)
          · try dsimp only
            all_goals trivial
          clear hK K
          try simp only [Act.put, List.setIfInBounds_toArray, List.set_cons_zero, List.set_cons_succ]
          have yP := set8S (.int .i64 (fa 0)) (.int .i64 (fa 1)) (.int .i64 (fa 2)) (.int .i64 (fa 3)) (.int .i64 (fa 4)) (.int .i64 (fa 5)) (.int .i64 (fa 6)) (.int .i64 (fa 7)) xP18
          have yQ := (set8O (.int .i64 (fa 0)) (.int .i64 (fa 1)) (.int .i64 (fa 2)) (.int .i64 (fa 3)) (.int .i64 (fa 4)) (.int .i64 (fa 5)) (.int .i64 (fa 6)) (.int .i64 (fa 7)) (Ne.symm (hne16.symm))).trans xQ18
          have yb := set8B (.int .i64 (fa 0)) (.int .i64 (fa 1)) (.int .i64 (fa 2)) (.int .i64 (fa 3)) (.int .i64 (fa 4)) (.int .i64 (fa 5)) (.int .i64 (fa 6)) (.int .i64 (fa 7)) bw18 (bw6).size
          obtain ⟨fQ, q0, q1, q2, q3, q4, q5, q6, q7⟩ := bx8S yQ
          refine wpAnyH_ready (rs := [13]) (by kernel_rfl) (by simp) ?_
          refine AllReadyH.cons (o := { dst := none, op := Op.store 62 (Operand.tmp 8) (Operand.tmp 28), type := 0, pos := "l19_seal.go:67", after := #[{ on := 11, ground := Ground.data }, { on := 9, ground := Ground.data }, { on := 12, ground := Ground.chain }, { on := 0, ground := Ground.phase }, { on := 1, ground := Ground.phase }, { on := 2, ground := Ground.phase }, { on := 3, ground := Ground.phase }, { on := 4, ground := Ground.phase }, { on := 5, ground := Ground.phase }, { on := 6, ground := Ground.phase }, { on := 7, ground := Ground.phase }, { on := 8, ground := Ground.phase }, { on := 9, ground := Ground.phase }, { on := 10, ground := Ground.phase }, { on := 11, ground := Ground.phase }, { on := 12, ground := Ground.phase }], guard := none }) rfl (fun K hK => ?_) AllReadyH.nil
          go_simp
          refine hK.out _ _ ?_ (fun hHeld => ?_)
          · try dsimp only
            all_goals trivial
          clear hK K
          try simp only [Act.put, List.setIfInBounds_toArray, List.set_cons_zero, List.set_cons_succ]
          refine wpAnyH_done (by kernel_rfl) ?_ _
          go_wp2_with fail
          go_meet
          exact ⟨_, _, rfl, rfl, (set8O (.int .i64 (fb 0)) (.int .i64 (fb 1)) (.int .i64 (fb 2)) (.int .i64 (fb 3)) (.int .i64 (fb 4)) (.int .i64 (fb 5)) (.int .i64 (fb 6)) (.int .i64 (fb 7)) (hne16.symm)).trans yP, set8S (.int .i64 (fb 0)) (.int .i64 (fb 1)) (.int .i64 (fb 2)) (.int .i64 (fb 3)) (.int .i64 (fb 4)) (.int .i64 (fb 5)) (.int .i64 (fb 6)) (.int .i64 (fb 7)) yQ, set8B (.int .i64 (fb 0)) (.int .i64 (fb 1)) (.int .i64 (fb 2)) (.int .i64 (fb 3)) (.int .i64 (fb 4)) (.int .i64 (fb 5)) (.int .i64 (fb 6)) (.int .i64 (fb 7)) yb (bw1).size⟩
        refine AllReadyH.cons (o := { dst := some 7, op := Op.alloc 62, type := 0, pos := "l19_seal.go:67", after := #[], guard := none }) rfl (fun K hK => ?_) ?_
        · skip
          go_simp
          refine hK.out _ _ ?_ (fun hHeld => ?_)
          · try dsimp only
            all_goals trivial
          clear hK K
          try simp only [Act.put, List.setIfInBounds_toArray, List.set_cons_zero, List.set_cons_succ]
          obtain ⟨w2, e2⟩ : ∃ w2, (wr.alloc (.cells #[.int .i64 0, .int .i64 0, .int .i64 0, .int .i64 0, .int .i64 0, .int .i64 0, .int .i64 0, .int .i64 0] 62)).drew = w2 := ⟨_, rfl⟩
          have bw2 : Below wr.heap.size wr w2 := by rw [← e2]; exact bd1 _ _
          have xP2 : w2.heap[wr.heap.size]? = some (.cells #[.int .i64 0, .int .i64 0, .int .i64 0, .int .i64 0, .int .i64 0, .int .i64 0, .int .i64 0, .int .i64 0] 62) := by rw [← e2]; exact World.alloc_heap_new wr _
          rw [e2]
          clear e2
          refine wpAnyH_ready (rs := [4, 11]) (by kernel_rfl) (by simp) ?_
          refine AllReadyH.cons (o := { dst := some 23, op := Op.call { callee := Callee.value (Operand.func 42), args := #[Operand.tmp 21, Operand.tmp 22], argTypes := #[24, 3] }, type := 62, pos := "l19_seal.go:67", after := #[{ on := 2, ground := Ground.data }, { on := 3, ground := Ground.data }], guard := none }) rfl (fun K hK => ?_) ?_
          · skip
            go_simp
            go_at_call_of 42 (Value.slice (some ⟨b1, o1, none⟩) m ca)
            refine (HQ.out.1 _ bw2).mono ?_
            rintro e w19 ⟨rfl, h19⟩
            have bw19 : Below wr.heap.size wr w19 := bw2.trans (h19.mono bw2.size)
            have xP19 := (h19.block _ (Array.getElem?_eq_some_iff.1 xP2).1).trans xP2
            clear h19
            try dsimp only
            try go_wp2_with fail
            refine hK.out _ _ ?_ (fun hHeld => ?_)
            · try dsimp only
              all_goals trivial
            clear hK K
            try simp only [Act.put, List.setIfInBounds_toArray, List.set_cons_zero, List.set_cons_succ]
            refine wpAnyH_ready (rs := [9, 11]) (by kernel_rfl) (by simp) ?_
            refine AllReadyH.cons (o := { dst := some 28, op := Op.call { callee := Callee.value (Operand.func 42), args := #[Operand.tmp 26, Operand.tmp 27], argTypes := #[24, 3] }, type := 62, pos := "l19_seal.go:67", after := #[{ on := 7, ground := Ground.data }, { on := 8, ground := Ground.data }, { on := 4, ground := Ground.chain }], guard := none }) rfl (fun K hK => ?_) ?_
            · skip
              go_simp
              go_at_call_of 42 (Value.slice (some ⟨b2, o2, none⟩) m cb)
              refine (HQ.out.2 _ bw19).mono ?_
              rintro e w21 ⟨rfl, h21⟩
              have bw21 : Below wr.heap.size wr w21 := bw19.trans (h21.mono bw19.size)
              have xP21 := (h21.block _ (Array.getElem?_eq_some_iff.1 xP19).1).trans xP19
              clear h21
              try dsimp only
              try go_wp2_with fail
              refine hK.out _ _ ?_ (fun hHeld => ?_)
              · try dsimp only
                all_goals trivial
              clear hK K
              try simp only [Act.put, List.setIfInBounds_toArray, List.set_cons_zero, List.set_cons_succ]
              refine wpAnyH_ready (rs := [11]) (by kernel_rfl) (by simp) ?_
              refine AllReadyH.cons (o := { dst := some 8, op := Op.alloc 62, type := 0, pos := "l19_seal.go:67", after := #[], guard := none }) rfl (fun K hK => ?_) AllReadyH.nil
              go_simp
              refine hK.out _ _ ?_ (fun hHeld => ?_)
              · try dsimp only
                all_goals trivial
              clear hK K
              try simp only [Act.put, List.setIfInBounds_toArray, List.set_cons_zero, List.set_cons_succ]
              obtain ⟨w23, e23⟩ : ∃ w23, (w21).alloc (.cells #[.int .i64 0, .int .i64 0, .int .i64 0, .int .i64 0, .int .i64 0, .int .i64 0, .int .i64 0, .int .i64 0] 62) = w23 := ⟨_, rfl⟩
              have bw23 : Below wr.heap.size wr w23 := by rw [← e23]; exact bw21.alloc bw21.size _
              have xQ23 : w23.heap[w21.heap.size]? = some (.cells #[.int .i64 0, .int .i64 0, .int .i64 0, .int .i64 0, .int .i64 0, .int .i64 0, .int .i64 0, .int .i64 0] 62) := by rw [← e23]; exact World.alloc_heap_new _ _
              have xP23 : w23.heap[wr.heap.size]? = some (.cells #[.int .i64 0, .int .i64 0, .int .i64 0, .int .i64 0, .int .i64 0, .int .i64 0, .int .i64 0, .int .i64 0] 62) := by rw [← e23]; exact hAlloc8 xP21
              have hne23 : wr.heap.size ≠ w21.heap.size := Nat.ne_of_lt (Array.getElem?_eq_some_iff.1 xP21).1
              rw [e23]
              clear e23
              obtain ⟨fP, p0, p1, p2, p3, p4, p5, p6, p7⟩ := bx8S xP23
              refine wpAnyH_ready (rs := [12]) (by kernel_rfl) (by simp) ?_
              refine AllReadyH.cons (o := { dst := none, op := Op.store 62 (Operand.tmp 7) (Operand.tmp 23), type := 0, pos := "l19_seal.go:67", after := #[{ on := 10, ground := Ground.data }, { on := 4, ground := Ground.data }, { on := 9, ground := Ground.chain }, { on := 0, ground := Ground.phase }, { on := 1, ground := Ground.phase }, { on := 2, ground := Ground.phase }, { on := 3, ground := Ground.phase }, { on := 4, ground := Ground.phase }, { on := 5, ground := Ground.textOnly Departure.lateStores }, { on := 6, ground := Ground.textOnly Departure.lateStores }, { on := 7, ground := Ground.textOnly Departure.lateStoresUnsure }, { on := 8, ground := Ground.textOnly Departure.lateStores }, { on := 9, ground := Ground.textOnly Departure.lateStoresUnsure }, { on := 10, ground := Ground.phase }, { on := 11, ground := Ground.phase }], guard := none }) rfl (fun K hK => ?_) AllReadyH.nil
              go_simp
              refine hK.out _ _ ?_ (fun hHeld => ?_)
              · try dsimp only
                all_goals trivial
              clear hK K
              try simp only [Act.put, List.setIfInBounds_toArray, List.set_cons_zero, List.set_cons_succ]
              have yP := set8S (.int .i64 (fa 0)) (.int .i64 (fa 1)) (.int .i64 (fa 2)) (.int .i64 (fa 3)) (.int .i64 (fa 4)) (.int .i64 (fa 5)) (.int .i64 (fa 6)) (.int .i64 (fa 7)) xP23
              have yQ := (set8O (.int .i64 (fa 0)) (.int .i64 (fa 1)) (.int .i64 (fa 2)) (.int .i64 (fa 3)) (.int .i64 (fa 4)) (.int .i64 (fa 5)) (.int .i64 (fa 6)) (.int .i64 (fa 7)) (Ne.symm (hne23))).trans xQ23
              have yb := set8B (.int .i64 (fa 0)) (.int .i64 (fa 1)) (.int .i64 (fa 2)) (.int .i64 (fa 3)) (.int .i64 (fa 4)) (.int .i64 (fa 5)) (.int .i64 (fa 6)) (.int .i64 (fa 7)) bw23 ((bd0 wr)).size
              obtain ⟨fQ, q0, q1, q2, q3, q4, q5, q6, q7⟩ := bx8S yQ
              refine wpAnyH_ready (rs := [13]) (by kernel_rfl) (by simp) ?_
              refine AllReadyH.cons (o := { dst := none, op := Op.store 62 (Operand.tmp 8) (Operand.tmp 28), type := 0, pos := "l19_seal.go:67", after := #[{ on := 11, ground := Ground.data }, { on := 9, ground := Ground.data }, { on := 12, ground := Ground.chain }, { on := 0, ground := Ground.phase }, { on := 1, ground := Ground.phase }, { on := 2, ground := Ground.phase }, { on := 3, ground := Ground.phase }, { on := 4, ground := Ground.phase }, { on := 5, ground := Ground.phase }, { on := 6, ground := Ground.phase }, { on := 7, ground := Ground.phase }, { on := 8, ground := Ground.phase }, { on := 9, ground := Ground.phase }, { on := 10, ground := Ground.phase }, { on := 11, ground := Ground.phase }, { on := 12, ground := Ground.phase }], guard := none }) rfl (fun K hK => ?_) AllReadyH.nil
              go_simp
              refine hK.out _ _ ?_ (fun hHeld => ?_)
              · try dsimp only
                all_goals trivial
              clear hK K
              try simp only [Act.put, List.setIfInBounds_toArray, List.set_cons_zero, List.set_cons_succ]
              refine wpAnyH_done (by kernel_rfl) ?_ _
              go_wp2_with fail
              go_meet
              exact ⟨_, _, rfl, rfl, (set8O (.int .i64 (fb 0)) (.int .i64 (fb 1)) (.int .i64 (fb 2)) (.int .i64 (fb 3)) (.int .i64 (fb 4)) (.int .i64 (fb 5)) (.int .i64 (fb 6)) (.int .i64 (fb 7)) (hne23)).trans yP, set8S (.int .i64 (fb 0)) (.int .i64 (fb 1)) (.int .i64 (fb 2)) (.int .i64 (fb 3)) (.int .i64 (fb 4)) (.int .i64 (fb 5)) (.int .i64 (fb 6)) (.int .i64 (fb 7)) yQ, set8B (.int .i64 (fb 0)) (.int .i64 (fb 1)) (.int .i64 (fb 2)) (.int .i64 (fb 3)) (.int .i64 (fb 4)) (.int .i64 (fb 5)) (.int .i64 (fb 6)) (.int .i64 (fb 7)) yb (bw21).size⟩
            refine AllReadyH.cons (o := { dst := some 8, op := Op.alloc 62, type := 0, pos := "l19_seal.go:67", after := #[], guard := none }) rfl (fun K hK => ?_) AllReadyH.nil
            go_simp
            refine hK.out _ _ ?_ (fun hHeld => ?_)
            · try dsimp only
              all_goals trivial
            clear hK K
            try simp only [Act.put, List.setIfInBounds_toArray, List.set_cons_zero, List.set_cons_succ]
            obtain ⟨w22, e22⟩ : ∃ w22, (w19).alloc (.cells #[.int .i64 0, .int .i64 0, .int .i64 0, .int .i64 0, .int .i64 0, .int .i64 0, .int .i64 0, .int .i64 0] 62) = w22 := ⟨_, rfl⟩
            have bw22 : Below wr.heap.size wr w22 := by rw [← e22]; exact bw19.alloc bw19.size _
            have xQ22 : w22.heap[w19.heap.size]? = some (.cells #[.int .i64 0, .int .i64 0, .int .i64 0, .int .i64 0, .int .i64 0, .int .i64 0, .int .i64 0, .int .i64 0] 62) := by rw [← e22]; exact World.alloc_heap_new _ _
            have xP22 : w22.heap[wr.heap.size]? = some (.cells #[.int .i64 0, .int .i64 0, .int .i64 0, .int .i64 0, .int .i64 0, .int .i64 0, .int .i64 0, .int .i64 0] 62) := by rw [← e22]; exact hAlloc8 xP19
            have hne22 : wr.heap.size ≠ w19.heap.size := Nat.ne_of_lt (Array.getElem?_eq_some_iff.1 xP19).1
            rw [e22]
            clear e22
            refine wpAnyH_ready (rs := [9]) (by kernel_rfl) (by simp) ?_
            refine AllReadyH.cons (o := { dst := some 28, op := Op.call { callee := Callee.value (Operand.func 42), args := #[Operand.tmp 26, Operand.tmp 27], argTypes := #[24, 3] }, type := 62, pos := "l19_seal.go:67", after := #[{ on := 7, ground := Ground.data }, { on := 8, ground := Ground.data }, { on := 4, ground := Ground.chain }], guard := none }) rfl (fun K hK => ?_) AllReadyH.nil
            go_simp
            go_at_call_of 42 (Value.slice (some ⟨b2, o2, none⟩) m cb)
            refine (HQ.out.2 _ bw22).mono ?_
            rintro e w24 ⟨rfl, h24⟩
            have bw24 : Below wr.heap.size wr w24 := bw22.trans (h24.mono bw22.size)
            have xP24 := (h24.block _ (Array.getElem?_eq_some_iff.1 xP22).1).trans xP22
            have xQ24 := (h24.block _ (Array.getElem?_eq_some_iff.1 xQ22).1).trans xQ22
            clear h24
            try dsimp only
            try go_wp2_with fail
            refine hK.out _ _ ?_ (fun hHeld => ?_)
            · try dsimp only
              all_goals trivial
            clear hK K
            try simp only [Act.put, List.setIfInBounds_toArray, List.set_cons_zero, List.set_cons_succ]
            obtain ⟨fP, p0, p1, p2, p3, p4, p5, p6, p7⟩ := bx8S xP24
            refine wpAnyH_ready (rs := [12]) (by kernel_rfl) (by simp) ?_
            refine AllReadyH.cons (o := { dst := none, op := Op.store 62 (Operand.tmp 7) (Operand.tmp 23), type := 0, pos := "l19_seal.go:67", after := #[{ on := 10, ground := Ground.data }, { on := 4, ground := Ground.data }, { on := 9, ground := Ground.chain }, { on := 0, ground := Ground.phase }, { on := 1, ground := Ground.phase }, { on := 2, ground := Ground.phase }, { on := 3, ground := Ground.phase }, { on := 4, ground := Ground.phase }, { on := 5, ground := Ground.textOnly Departure.lateStores }, { on := 6, ground := Ground.textOnly Departure.lateStores }, { on := 7, ground := Ground.textOnly Departure.lateStoresUnsure }, { on := 8, ground := Ground.textOnly Departure.lateStores }, { on := 9, ground := Ground.textOnly Departure.lateStoresUnsure }, { on := 10, ground := Ground.phase }, { on := 11, ground := Ground.phase }], guard := none }) rfl (fun K hK => ?_) AllReadyH.nil
            go_simp
            refine hK.out _ _ ?_ (fun hHeld => ?_)
            · try dsimp only
              all_goals trivial
            clear hK K
            try simp only [Act.put, List.setIfInBounds_toArray, List.set_cons_zero, List.set_cons_succ]
            have yP := set8S (.int .i64 (fa 0)) (.int .i64 (fa 1)) (.int .i64 (fa 2)) (.int .i64 (fa 3)) (.int .i64 (fa 4)) (.int .i64 (fa 5)) (.int .i64 (fa 6)) (.int .i64 (fa 7)) xP24
            have yQ := (set8O (.int .i64 (fa 0)) (.int .i64 (fa 1)) (.int .i64 (fa 2)) (.int .i64 (fa 3)) (.int .i64 (fa 4)) (.int .i64 (fa 5)) (.int .i64 (fa 6)) (.int .i64 (fa 7)) (Ne.symm (hne22))).trans xQ24
            have yb := set8B (.int .i64 (fa 0)) (.int .i64 (fa 1)) (.int .i64 (fa 2)) (.int .i64 (fa 3)) (.int .i64 (fa 4)) (.int .i64 (fa 5)) (.int .i64 (fa 6)) (.int .i64 (fa 7)) bw24 ((bd0 wr)).size
            obtain ⟨fQ, q0, q1, q2, q3, q4, q5, q6, q7⟩ := bx8S yQ
            refine wpAnyH_ready (rs := [13]) (by kernel_rfl) (by simp) ?_
            refine AllReadyH.cons (o := { dst := none, op := Op.store 62 (Operand.tmp 8) (Operand.tmp 28), type := 0, pos := "l19_seal.go:67", after := #[{ on := 11, ground := Ground.data }, { on := 9, ground := Ground.data }, { on := 12, ground := Ground.chain }, { on := 0, ground := Ground.phase }, { on := 1, ground := Ground.phase }, { on := 2, ground := Ground.phase }, { on := 3, ground := Ground.phase }, { on := 4, ground := Ground.phase }, { on := 5, ground := Ground.phase }, { on := 6, ground := Ground.phase }, { on := 7, ground := Ground.phase }, { on := 8, ground := Ground.phase }, { on := 9, ground := Ground.phase }, { on := 10, ground := Ground.phase }, { on := 11, ground := Ground.phase }, { on := 12, ground := Ground.phase }], guard := none }) rfl (fun K hK => ?_) AllReadyH.nil
            go_simp
            refine hK.out _ _ ?_ (fun hHeld => ?_)
            · try dsimp only
              all_goals trivial
            clear hK K
            try simp only [Act.put, List.setIfInBounds_toArray, List.set_cons_zero, List.set_cons_succ]
            refine wpAnyH_done (by kernel_rfl) ?_ _
            go_wp2_with fail
            go_meet
            exact ⟨_, _, rfl, rfl, (set8O (.int .i64 (fb 0)) (.int .i64 (fb 1)) (.int .i64 (fb 2)) (.int .i64 (fb 3)) (.int .i64 (fb 4)) (.int .i64 (fb 5)) (.int .i64 (fb 6)) (.int .i64 (fb 7)) (hne22)).trans yP, set8S (.int .i64 (fb 0)) (.int .i64 (fb 1)) (.int .i64 (fb 2)) (.int .i64 (fb 3)) (.int .i64 (fb 4)) (.int .i64 (fb 5)) (.int .i64 (fb 6)) (.int .i64 (fb 7)) yQ, set8B (.int .i64 (fb 0)) (.int .i64 (fb 1)) (.int .i64 (fb 2)) (.int .i64 (fb 3)) (.int .i64 (fb 4)) (.int .i64 (fb 5)) (.int .i64 (fb 6)) (.int .i64 (fb 7)) yb (bw19).size⟩
          refine AllReadyH.cons (o := { dst := some 8, op := Op.alloc 62, type := 0, pos := "l19_seal.go:67", after := #[], guard := none }) rfl (fun K hK => ?_) AllReadyH.nil
          go_simp
          refine hK.out _ _ ?_ (fun hHeld => ?_)
          · try dsimp only
            all_goals trivial
          clear hK K
          try simp only [Act.put, List.setIfInBounds_toArray, List.set_cons_zero, List.set_cons_succ]
          obtain ⟨w20, e20⟩ : ∃ w20, (w2).alloc (.cells #[.int .i64 0, .int .i64 0, .int .i64 0, .int .i64 0, .int .i64 0, .int .i64 0, .int .i64 0, .int .i64 0] 62) = w20 := ⟨_, rfl⟩
          have bw20 : Below wr.heap.size wr w20 := by rw [← e20]; exact bw2.alloc bw2.size _
          have xQ20 : w20.heap[w2.heap.size]? = some (.cells #[.int .i64 0, .int .i64 0, .int .i64 0, .int .i64 0, .int .i64 0, .int .i64 0, .int .i64 0, .int .i64 0] 62) := by rw [← e20]; exact World.alloc_heap_new _ _
          have xP20 : w20.heap[wr.heap.size]? = some (.cells #[.int .i64 0, .int .i64 0, .int .i64 0, .int .i64 0, .int .i64 0, .int .i64 0, .int .i64 0, .int .i64 0] 62) := by rw [← e20]; exact hAlloc8 xP2
          have hne20 : wr.heap.size ≠ w2.heap.size := Nat.ne_of_lt (Array.getElem?_eq_some_iff.1 xP2).1
          rw [e20]
          clear e20
          refine wpAnyH_ready (rs := [4]) (by kernel_rfl) (by simp) ?_
          refine AllReadyH.cons (o := { dst := some 23, op := Op.call { callee := Callee.value (Operand.func 42), args := #[Operand.tmp 21, Operand.tmp 22], argTypes := #[24, 3] }, type := 62, pos := "l19_seal.go:67", after := #[{ on := 2, ground := Ground.data }, { on := 3, ground := Ground.data }], guard := none }) rfl (fun K hK => ?_) AllReadyH.nil
          go_simp
          go_at_call_of 42 (Value.slice (some ⟨b1, o1, none⟩) m ca)
          refine (HQ.out.1 _ bw20).mono ?_
          rintro e w25 ⟨rfl, h25⟩
          have bw25 : Below wr.heap.size wr w25 := bw20.trans (h25.mono bw20.size)
          have xP25 := (h25.block _ (Array.getElem?_eq_some_iff.1 xP20).1).trans xP20
          have xQ25 := (h25.block _ (Array.getElem?_eq_some_iff.1 xQ20).1).trans xQ20
          clear h25
          try dsimp only
          try go_wp2_with fail
          refine hK.out _ _ ?_ (fun hHeld => ?_)
          · try dsimp only
            all_goals trivial
          clear hK K
          try simp only [Act.put, List.setIfInBounds_toArray, List.set_cons_zero, List.set_cons_succ]
          refine wpAnyH_ready (rs := [9]) (by kernel_rfl) (by simp) ?_
          refine AllReadyH.cons (o := { dst := some 28, op := Op.call { callee := Callee.value (Operand.func 42), args := #[Operand.tmp 26, Operand.tmp 27], argTypes := #[24, 3] }, type := 62, pos := "l19_seal.go:67", after := #[{ on := 7, ground := Ground.data }, { on := 8, ground := Ground.data }, { on := 4, ground := Ground.chain }], guard := none }) rfl (fun K hK => ?_) AllReadyH.nil
          go_simp
          go_at_call_of 42 (Value.slice (some ⟨b2, o2, none⟩) m cb)
          refine (HQ.out.2 _ bw25).mono ?_
          rintro e w26 ⟨rfl, h26⟩
          have bw26 : Below wr.heap.size wr w26 := bw25.trans (h26.mono bw25.size)
          have xP26 := (h26.block _ (Array.getElem?_eq_some_iff.1 xP25).1).trans xP25
          have xQ26 := (h26.block _ (Array.getElem?_eq_some_iff.1 xQ25).1).trans xQ25
          clear h26
          try dsimp only
          try go_wp2_with fail
          refine hK.out _ _ ?_ (fun hHeld => ?_)
          · try dsimp only
            all_goals trivial
          clear hK K
          try simp only [Act.put, List.setIfInBounds_toArray, List.set_cons_zero, List.set_cons_succ]
          obtain ⟨fP, p0, p1, p2, p3, p4, p5, p6, p7⟩ := bx8S xP26
          refine wpAnyH_ready (rs := [12]) (by kernel_rfl) (by simp) ?_
          refine AllReadyH.cons (o := { dst := none, op := Op.store 62 (Operand.tmp 7) (Operand.tmp 23), type := 0, pos := "l19_seal.go:67", after := #[{ on := 10, ground := Ground.data }, { on := 4, ground := Ground.data }, { on := 9, ground := Ground.chain }, { on := 0, ground := Ground.phase }, { on := 1, ground := Ground.phase }, { on := 2, ground := Ground.phase }, { on := 3, ground := Ground.phase }, { on := 4, ground := Ground.phase }, { on := 5, ground := Ground.textOnly Departure.lateStores }, { on := 6, ground := Ground.textOnly Departure.lateStores }, { on := 7, ground := Ground.textOnly Departure.lateStoresUnsure }, { on := 8, ground := Ground.textOnly Departure.lateStores }, { on := 9, ground := Ground.textOnly Departure.lateStoresUnsure }, { on := 10, ground := Ground.phase }, { on := 11, ground := Ground.phase }], guard := none }) rfl (fun K hK => ?_) AllReadyH.nil
          go_simp
          refine hK.out _ _ ?_ (fun hHeld => ?_)
          · try dsimp only
            all_goals trivial
          clear hK K
          try simp only [Act.put, List.setIfInBounds_toArray, List.set_cons_zero, List.set_cons_succ]
          have yP := set8S (.int .i64 (fa 0)) (.int .i64 (fa 1)) (.int .i64 (fa 2)) (.int .i64 (fa 3)) (.int .i64 (fa 4)) (.int .i64 (fa 5)) (.int .i64 (fa 6)) (.int .i64 (fa 7)) xP26
          have yQ := (set8O (.int .i64 (fa 0)) (.int .i64 (fa 1)) (.int .i64 (fa 2)) (.int .i64 (fa 3)) (.int .i64 (fa 4)) (.int .i64 (fa 5)) (.int .i64 (fa 6)) (.int .i64 (fa 7)) (Ne.symm (hne20))).trans xQ26
          have yb := set8B (.int .i64 (fa 0)) (.int .i64 (fa 1)) (.int .i64 (fa 2)) (.int .i64 (fa 3)) (.int .i64 (fa 4)) (.int .i64 (fa 5)) (.int .i64 (fa 6)) (.int .i64 (fa 7)) bw26 ((bd0 wr)).size
          obtain ⟨fQ, q0, q1, q2, q3, q4, q5, q6, q7⟩ := bx8S yQ
          refine wpAnyH_ready (rs := [13]) (by kernel_rfl) (by simp) ?_
          refine AllReadyH.cons (o := { dst := none, op := Op.store 62 (Operand.tmp 8) (Operand.tmp 28), type := 0, pos := "l19_seal.go:67", after := #[{ on := 11, ground := Ground.data }, { on := 9, ground := Ground.data }, { on := 12, ground := Ground.chain }, { on := 0, ground := Ground.phase }, { on := 1, ground := Ground.phase }, { on := 2, ground := Ground.phase }, { on := 3, ground := Ground.phase }, { on := 4, ground := Ground.phase }, { on := 5, ground := Ground.phase }, { on := 6, ground := Ground.phase }, { on := 7, ground := Ground.phase }, { on := 8, ground := Ground.phase }, { on := 9, ground := Ground.phase }, { on := 10, ground := Ground.phase }, { on := 11, ground := Ground.phase }, { on := 12, ground := Ground.phase }], guard := none }) rfl (fun K hK => ?_) AllReadyH.nil
          go_simp
          refine hK.out _ _ ?_ (fun hHeld => ?_)
          · try dsimp only
            all_goals trivial
          clear hK K
          try simp only [Act.put, List.setIfInBounds_toArray, List.set_cons_zero, List.set_cons_succ]
          refine wpAnyH_done (by kernel_rfl) ?_ _
          go_wp2_with fail
          go_meet
          exact ⟨_, _, rfl, rfl, (set8O (.int .i64 (fb 0)) (.int .i64 (fb 1)) (.int .i64 (fb 2)) (.int .i64 (fb 3)) (.int .i64 (fb 4)) (.int .i64 (fb 5)) (.int .i64 (fb 6)) (.int .i64 (fb 7)) (hne20)).trans yP, set8S (.int .i64 (fb 0)) (.int .i64 (fb 1)) (.int .i64 (fb 2)) (.int .i64 (fb 3)) (.int .i64 (fb 4)) (.int .i64 (fb 5)) (.int .i64 (fb 6)) (.int .i64 (fb 7)) yQ, set8B (.int .i64 (fb 0)) (.int .i64 (fb 1)) (.int .i64 (fb 2)) (.int .i64 (fb 3)) (.int .i64 (fb 4)) (.int .i64 (fb 5)) (.int .i64 (fb 6)) (.int .i64 (fb 7)) yb (bw2).size⟩
        refine AllReadyH.cons (o := { dst := some 8, op := Op.alloc 62, type := 0, pos := "l19_seal.go:67", after := #[], guard := none }) rfl (fun K hK => ?_) AllReadyH.nil
        go_simp
        refine hK.out _ _ ?_ (fun hHeld => ?_)
        · try dsimp only
          all_goals trivial
        clear hK K
        try simp only [Act.put, List.setIfInBounds_toArray, List.set_cons_zero, List.set_cons_succ]
        obtain ⟨w3, e3⟩ : ∃ w3, (wr.alloc (.cells #[.int .i64 0, .int .i64 0, .int .i64 0, .int .i64 0, .int .i64 0, .int .i64 0, .int .i64 0, .int .i64 0] 62)).drew = w3 := ⟨_, rfl⟩
        have bw3 : Below wr.heap.size wr w3 := by rw [← e3]; exact bd1 _ _
        have xQ3 : w3.heap[wr.heap.size]? = some (.cells #[.int .i64 0, .int .i64 0, .int .i64 0, .int .i64 0, .int .i64 0, .int .i64 0, .int .i64 0, .int .i64 0] 62) := by rw [← e3]; exact World.alloc_heap_new wr _
        rw [e3]
        clear e3
        refine wpAnyH_ready (rs := [4, 10]) (by kernel_rfl) (by simp) ?_
        refine AllReadyH.cons (o := { dst := some 23, op := Op.call { callee := Callee.value (Operand.func 42), args := #[Operand.tmp 21, Operand.tmp 22], argTypes := #[24, 3] }, type := 62, pos := "l19_seal.go:67", after := #[{ on := 2, ground := Ground.data }, { on := 3, ground := Ground.data }], guard := none }) rfl (fun K hK => ?_) ?_
        · skip
          go_simp
          go_at_call_of 42 (Value.slice (some ⟨b1, o1, none⟩) m ca)
          refine (HQ.out.1 _ bw3).mono ?_
          rintro e w27 ⟨rfl, h27⟩
          have bw27 : Below wr.heap.size wr w27 := bw3.trans (h27.mono bw3.size)
          have xQ27 := (h27.block _ (Array.getElem?_eq_some_iff.1 xQ3).1).trans xQ3
          clear h27
          try dsimp only
          try go_wp2_with fail
          refine hK.out _ _ ?_ (fun hHeld => ?_)
          · try dsimp only
            all_goals trivial
          clear hK K
          try simp only [Act.put, List.setIfInBounds_toArray, List.set_cons_zero, List.set_cons_succ]
          refine wpAnyH_ready (rs := [9, 10]) (by kernel_rfl) (by simp) ?_
          refine AllReadyH.cons (o := { dst := some 28, op := Op.call { callee := Callee.value (Operand.func 42), args := #[Operand.tmp 26, Operand.tmp 27], argTypes := #[24, 3] }, type := 62, pos := "l19_seal.go:67", after := #[{ on := 7, ground := Ground.data }, { on := 8, ground := Ground.data }, { on := 4, ground := Ground.chain }], guard := none }) rfl (fun K hK => ?_) ?_
          · skip
            go_simp
            go_at_call_of 42 (Value.slice (some ⟨b2, o2, none⟩) m cb)
            refine (HQ.out.2 _ bw27).mono ?_
            rintro e w29 ⟨rfl, h29⟩
            have bw29 : Below wr.heap.size wr w29 := bw27.trans (h29.mono bw27.size)
            have xQ29 := (h29.block _ (Array.getElem?_eq_some_iff.1 xQ27).1).trans xQ27
            clear h29
            try dsimp only
            try go_wp2_with fail
            refine hK.out _ _ ?_ (fun hHeld => ?_)
            · try dsimp only
              all_goals trivial
            clear hK K
            try simp only [Act.put, List.setIfInBounds_toArray, List.set_cons_zero, List.set_cons_succ]
            refine wpAnyH_ready (rs := [10]) (by kernel_rfl) (by simp) ?_
            refine AllReadyH.cons (o := { dst := some 7, op := Op.alloc 62, type := 0, pos := "l19_seal.go:67", after := #[], guard := none }) rfl (fun K hK => ?_) AllReadyH.nil
            go_simp
            refine hK.out _ _ ?_ (fun hHeld => ?_)
            · try dsimp only
              all_goals trivial
            clear hK K
            try simp only [Act.put, List.setIfInBounds_toArray, List.set_cons_zero, List.set_cons_succ]
            obtain ⟨w31, e31⟩ : ∃ w31, (w29).alloc (.cells #[.int .i64 0, .int .i64 0, .int .i64 0, .int .i64 0, .int .i64 0, .int .i64 0, .int .i64 0, .int .i64 0] 62) = w31 := ⟨_, rfl⟩
            have bw31 : Below wr.heap.size wr w31 := by rw [← e31]; exact bw29.alloc bw29.size _
            have xP31 : w31.heap[w29.heap.size]? = some (.cells #[.int .i64 0, .int .i64 0, .int .i64 0, .int .i64 0, .int .i64 0, .int .i64 0, .int .i64 0, .int .i64 0] 62) := by rw [← e31]; exact World.alloc_heap_new _ _
            have xQ31 : w31.heap[wr.heap.size]? = some (.cells #[.int .i64 0, .int .i64 0, .int .i64 0, .int .i64 0, .int .i64 0, .int .i64 0, .int .i64 0, .int .i64 0] 62) := by rw [← e31]; exact hAlloc8 xQ29
            have hne31 : wr.heap.size ≠ w29.heap.size := Nat.ne_of_lt (Array.getElem?_eq_some_iff.1 xQ29).1
            rw [e31]
            clear e31
            obtain ⟨fP, p0, p1, p2, p3, p4, p5, p6, p7⟩ := bx8S xP31
            refine wpAnyH_ready (rs := [12]) (by kernel_rfl) (by simp) ?_
            refine AllReadyH.cons (o := { dst := none, op := Op.store 62 (Operand.tmp 7) (Operand.tmp 23), type := 0, pos := "l19_seal.go:67", after := #[{ on := 10, ground := Ground.data }, { on := 4, ground := Ground.data }, { on := 9, ground := Ground.chain }, { on := 0, ground := Ground.phase }, { on := 1, ground := Ground.phase }, { on := 2, ground := Ground.phase }, { on := 3, ground := Ground.phase }, { on := 4, ground := Ground.phase }, { on := 5, ground := Ground.textOnly Departure.lateStores }, { on := 6, ground := Ground.textOnly Departure.lateStores }, { on := 7, ground := Ground.textOnly Departure.lateStoresUnsure }, { on := 8, ground := Ground.textOnly Departure.lateStores }, { on := 9, ground := Ground.textOnly Departure.lateStoresUnsure }, { on := 10, ground := Ground.phase }, { on := 11, ground := Ground.phase }], guard := none }) rfl (fun K hK => ?_) AllReadyH.nil
            go_simp
            refine hK.out _ _ ?_ (fun hHeld => ?_)
            · try dsimp only
              all_goals trivial
            clear hK K
            try simp only [Act.put, List.setIfInBounds_toArray, List.set_cons_zero, List.set_cons_succ]
            have yP := set8S (.int .i64 (fa 0)) (.int .i64 (fa 1)) (.int .i64 (fa 2)) (.int .i64 (fa 3)) (.int .i64 (fa 4)) (.int .i64 (fa 5)) (.int .i64 (fa 6)) (.int .i64 (fa 7)) xP31
            have yQ := (set8O (.int .i64 (fa 0)) (.int .i64 (fa 1)) (.int .i64 (fa 2)) (.int .i64 (fa 3)) (.int .i64 (fa 4)) (.int .i64 (fa 5)) (.int .i64 (fa 6)) (.int .i64 (fa 7)) (Ne.symm (hne31.symm))).trans xQ31
            have yb := set8B (.int .i64 (fa 0)) (.int .i64 (fa 1)) (.int .i64 (fa 2)) (.int .i64 (fa 3)) (.int .i64 (fa 4)) (.int .i64 (fa 5)) (.int .i64 (fa 6)) (.int .i64 (fa 7)) bw31 (bw29).size
            obtain ⟨fQ, q0, q1, q2, q3, q4, q5, q6, q7⟩ := bx8S yQ
            refine wpAnyH_ready (rs := [13]) (by kernel_rfl) (by simp) ?_
            refine AllReadyH.cons (o := { dst := none, op := Op.store 62 (Operand.tmp 8) (Operand.tmp 28), type := 0, pos := "l19_seal.go:67", after := #[{ on := 11, ground := Ground.data }, { on := 9, ground := Ground.data }, { on := 12, ground := Ground.chain }, { on := 0, ground := Ground.phase }, { on := 1, ground := Ground.phase }, { on := 2, ground := Ground.phase }, { on := 3, ground := Ground.phase }, { on := 4, ground := Ground.phase }, { on := 5, ground := Ground.phase }, { on := 6, ground := Ground.phase }, { on := 7, ground := Ground.phase }, { on := 8, ground := Ground.phase }, { on := 9, ground := Ground.phase }, { on := 10, ground := Ground.phase }, { on := 11, ground := Ground.phase }, { on := 12, ground := Ground.phase }], guard := none }) rfl (fun K hK => ?_) AllReadyH.nil
            go_simp
            refine hK.out _ _ ?_ (fun hHeld => ?_)
            · try dsimp only
              all_goals trivial
            clear hK K
            try simp only [Act.put, List.setIfInBounds_toArray, List.set_cons_zero, List.set_cons_succ]
            refine wpAnyH_done (by kernel_rfl) ?_ _
            go_wp2_with fail
            go_meet
            exact ⟨_, _, rfl, rfl, (set8O (.int .i64 (fb 0)) (.int .i64 (fb 1)) (.int .i64 (fb 2)) (.int .i64 (fb 3)) (.int .i64 (fb 4)) (.int .i64 (fb 5)) (.int .i64 (fb 6)) (.int .i64 (fb 7)) (hne31.symm)).trans yP, set8S (.int .i64 (fb 0)) (.int .i64 (fb 1)) (.int .i64 (fb 2)) (.int .i64 (fb 3)) (.int .i64 (fb 4)) (.int .i64 (fb 5)) (.int .i64 (fb 6)) (.int .i64 (fb 7)) yQ, set8B (.int .i64 (fb 0)) (.int .i64 (fb 1)) (.int .i64 (fb 2)) (.int .i64 (fb 3)) (.int .i64 (fb 4)) (.int .i64 (fb 5)) (.int .i64 (fb 6)) (.int .i64 (fb 7)) yb ((bd0 wr)).size⟩
          refine AllReadyH.cons (o := { dst := some 7, op := Op.alloc 62, type := 0, pos := "l19_seal.go:67", after := #[], guard := none }) rfl (fun K hK => ?_) AllReadyH.nil
          go_simp
          refine hK.out _ _ ?_ (fun hHeld => ?_)
          · try dsimp only
            all_goals trivial
          clear hK K
          try simp only [Act.put, List.setIfInBounds_toArray, List.set_cons_zero, List.set_cons_succ]
          obtain ⟨w30, e30⟩ : ∃ w30, (w27).alloc (.cells #[.int .i64 0, .int .i64 0, .int .i64 0, .int .i64 0, .int .i64 0, .int .i64 0, .int .i64 0, .int .i64 0] 62) = w30 := ⟨_, rfl⟩
          have bw30 : Below wr.heap.size wr w30 := by rw [← e30]; exact bw27.alloc bw27.size _
          have xP30 : w30.heap[w27.heap.size]? = some (.cells #[.int .i64 0, .int .i64 0, .int .i64 0, .int .i64 0, .int .i64 0, .int .i64 0, .int .i64 0, .int .i64 0] 62) := by rw [← e30]; exact World.alloc_heap_new _ _
          have xQ30 : w30.heap[wr.heap.size]? = some (.cells #[.int .i64 0, .int .i64 0, .int .i64 0, .int .i64 0, .int .i64 0, .int .i64 0, .int .i64 0, .int .i64 0] 62) := by rw [← e30]; exact hAlloc8 xQ27
          have hne30 : wr.heap.size ≠ w27.heap.size := Nat.ne_of_lt (Array.getElem?_eq_some_iff.1 xQ27).1
          rw [e30]
          clear e30
          refine wpAnyH_ready (rs := [9]) (by kernel_rfl) (by simp) ?_
          refine AllReadyH.cons (o := { dst := some 28, op := Op.call { callee := Callee.value (Operand.func 42), args := #[Operand.tmp 26, Operand.tmp 27], argTypes := #[24, 3] }, type := 62, pos := "l19_seal.go:67", after := #[{ on := 7, ground := Ground.data }, { on := 8, ground := Ground.data }, { on := 4, ground := Ground.chain }], guard := none }) rfl (fun K hK => ?_) AllReadyH.nil
          go_simp
          go_at_call_of 42 (Value.slice (some ⟨b2, o2, none⟩) m cb)
          refine (HQ.out.2 _ bw30).mono ?_
          rintro e w32 ⟨rfl, h32⟩
          have bw32 : Below wr.heap.size wr w32 := bw30.trans (h32.mono bw30.size)
          have xP32 := (h32.block _ (Array.getElem?_eq_some_iff.1 xP30).1).trans xP30
          have xQ32 := (h32.block _ (Array.getElem?_eq_some_iff.1 xQ30).1).trans xQ30
          clear h32
          try dsimp only
          try go_wp2_with fail
          refine hK.out _ _ ?_ (fun hHeld => ?_)
          · try dsimp only
            all_goals trivial
          clear hK K
          try simp only [Act.put, List.setIfInBounds_toArray, List.set_cons_zero, List.set_cons_succ]
          obtain ⟨fP, p0, p1, p2, p3, p4, p5, p6, p7⟩ := bx8S xP32
          refine wpAnyH_ready (rs := [12]) (by kernel_rfl) (by simp) ?_
          refine AllReadyH.cons (o := { dst := none, op := Op.store 62 (Operand.tmp 7) (Operand.tmp 23), type := 0, pos := "l19_seal.go:67", after := #[{ on := 10, ground := Ground.data }, { on := 4, ground := Ground.data }, { on := 9, ground := Ground.chain }, { on := 0, ground := Ground.phase }, { on := 1, ground := Ground.phase }, { on := 2, ground := Ground.phase }, { on := 3, ground := Ground.phase }, { on := 4, ground := Ground.phase }, { on := 5, ground := Ground.textOnly Departure.lateStores }, { on := 6, ground := Ground.textOnly Departure.lateStores }, { on := 7, ground := Ground.textOnly Departure.lateStoresUnsure }, { on := 8, ground := Ground.textOnly Departure.lateStores }, { on := 9, ground := Ground.textOnly Departure.lateStoresUnsure }, { on := 10, ground := Ground.phase }, { on := 11, ground := Ground.phase }], guard := none }) rfl (fun K hK => ?_) AllReadyH.nil
          go_simp
          refine hK.out _ _ ?_ (fun hHeld => ?_)
          · try dsimp only
            all_goals trivial
          clear hK K
          try simp only [Act.put, List.setIfInBounds_toArray, List.set_cons_zero, List.set_cons_succ]
          have yP := set8S (.int .i64 (fa 0)) (.int .i64 (fa 1)) (.int .i64 (fa 2)) (.int .i64 (fa 3)) (.int .i64 (fa 4)) (.int .i64 (fa 5)) (.int .i64 (fa 6)) (.int .i64 (fa 7)) xP32
          have yQ := (set8O (.int .i64 (fa 0)) (.int .i64 (fa 1)) (.int .i64 (fa 2)) (.int .i64 (fa 3)) (.int .i64 (fa 4)) (.int .i64 (fa 5)) (.int .i64 (fa 6)) (.int .i64 (fa 7)) (Ne.symm (hne30.symm))).trans xQ32
          have yb := set8B (.int .i64 (fa 0)) (.int .i64 (fa 1)) (.int .i64 (fa 2)) (.int .i64 (fa 3)) (.int .i64 (fa 4)) (.int .i64 (fa 5)) (.int .i64 (fa 6)) (.int .i64 (fa 7)) bw32 (bw27).size
          obtain ⟨fQ, q0, q1, q2, q3, q4, q5, q6, q7⟩ := bx8S yQ
          refine wpAnyH_ready (rs := [13]) (by kernel_rfl) (by simp) ?_
          refine AllReadyH.cons (o := { dst := none, op := Op.store 62 (Operand.tmp 8) (Operand.tmp 28), type := 0, pos := "l19_seal.go:67", after := #[{ on := 11, ground := Ground.data }, { on := 9, ground := Ground.data }, { on := 12, ground := Ground.chain }, { on := 0, ground := Ground.phase }, { on := 1, ground := Ground.phase }, { on := 2, ground := Ground.phase }, { on := 3, ground := Ground.phase }, { on := 4, ground := Ground.phase }, { on := 5, ground := Ground.phase }, { on := 6, ground := Ground.phase }, { on := 7, ground := Ground.phase }, { on := 8, ground := Ground.phase }, { on := 9, ground := Ground.phase }, { on := 10, ground := Ground.phase }, { on := 11, ground := Ground.phase }, { on := 12, ground := Ground.phase }], guard := none }) rfl (fun K hK => ?_) AllReadyH.nil
          go_simp
          refine hK.out _ _ ?_ (fun hHeld => ?_)
          · try dsimp only
            all_goals trivial
          clear hK K
          try simp only [Act.put, List.setIfInBounds_toArray, List.set_cons_zero, List.set_cons_succ]
          refine wpAnyH_done (by kernel_rfl) ?_ _
          go_wp2_with fail
          go_meet
          exact ⟨_, _, rfl, rfl, (set8O (.int .i64 (fb 0)) (.int .i64 (fb 1)) (.int .i64 (fb 2)) (.int .i64 (fb 3)) (.int .i64 (fb 4)) (.int .i64 (fb 5)) (.int .i64 (fb 6)) (.int .i64 (fb 7)) (hne30.symm)).trans yP, set8S (.int .i64 (fb 0)) (.int .i64 (fb 1)) (.int .i64 (fb 2)) (.int .i64 (fb 3)) (.int .i64 (fb 4)) (.int .i64 (fb 5)) (.int .i64 (fb 6)) (.int .i64 (fb 7)) yQ, set8B (.int .i64 (fb 0)) (.int .i64 (fb 1)) (.int .i64 (fb 2)) (.int .i64 (fb 3)) (.int .i64 (fb 4)) (.int .i64 (fb 5)) (.int .i64 (fb 6)) (.int .i64 (fb 7)) yb ((bd0 wr)).size⟩
        refine AllReadyH.cons (o := { dst := some 7, op := Op.alloc 62, type := 0, pos := "l19_seal.go:67", after := #[], guard := none }) rfl (fun K hK => ?_) AllReadyH.nil
        go_simp
        refine hK.out _ _ ?_ (fun hHeld => ?_)
        · try dsimp only
          all_goals trivial
        clear hK K
        try simp only [Act.put, List.setIfInBounds_toArray, List.set_cons_zero, List.set_cons_succ]
        obtain ⟨w28, e28⟩ : ∃ w28, (w3).alloc (.cells #[.int .i64 0, .int .i64 0, .int .i64 0, .int .i64 0, .int .i64 0, .int .i64 0, .int .i64 0, .int .i64 0] 62) = w28 := ⟨_, rfl⟩
        have bw28 : Below wr.heap.size wr w28 := by rw [← e28]; exact bw3.alloc bw3.size _
        have xP28 : w28.heap[w3.heap.size]? = some (.cells #[.int .i64 0, .int .i64 0, .int .i64 0, .int .i64 0, .int .i64 0, .int .i64 0, .int .i64 0, .int .i64 0] 62) := by rw [← e28]; exact World.alloc_heap_new _ _
        have xQ28 : w28.heap[wr.heap.size]? = some (.cells #[.int .i64 0, .int .i64 0, .int .i64 0, .int .i64 0, .int .i64 0, .int .i64 0, .int .i64 0, .int .i64 0] 62) := by rw [← e28]; exact hAlloc8 xQ3
        have hne28 : wr.heap.size ≠ w3.heap.size := Nat.ne_of_lt (Array.getElem?_eq_some_iff.1 xQ3).1
        rw [e28]
        clear e28
        refine wpAnyH_ready (rs := [4]) (by kernel_rfl) (by simp) ?_
        refine AllReadyH.cons (o := { dst := some 23, op := Op.call { callee := Callee.value (Operand.func 42), args := #[Operand.tmp 21, Operand.tmp 22], argTypes := #[24, 3] }, type := 62, pos := "l19_seal.go:67", after := #[{ on := 2, ground := Ground.data }, { on := 3, ground := Ground.data }], guard := none }) rfl (fun K hK => ?_) AllReadyH.nil
        go_simp
        go_at_call_of 42 (Value.slice (some ⟨b1, o1, none⟩) m ca)
        refine (HQ.out.1 _ bw28).mono ?_
        rintro e w33 ⟨rfl, h33⟩
        have bw33 : Below wr.heap.size wr w33 := bw28.trans (h33.mono bw28.size)
        have xP33 := (h33.block _ (Array.getElem?_eq_some_iff.1 xP28).1).trans xP28
        have xQ33 := (h33.block _ (Array.getElem?_eq_some_iff.1 xQ28).1).trans xQ28
        clear h33
        try dsimp only
        try go_wp2_with fail
        refine hK.out _ _ ?_ (fun hHeld => ?_)
        · try dsimp only
          all_goals trivial
        clear hK K
        try simp only [Act.put, List.setIfInBounds_toArray, List.set_cons_zero, List.set_cons_succ]
        refine wpAnyH_ready (rs := [9]) (by kernel_rfl) (by simp) ?_
        refine AllReadyH.cons (o := { dst := some 28, op := Op.call { callee := Callee.value (Operand.func 42), args := #[Operand.tmp 26, Operand.tmp 27], argTypes := #[24, 3] }, type := 62, pos := "l19_seal.go:67", after := #[{ on := 7, ground := Ground.data }, { on := 8, ground := Ground.data }, { on := 4, ground := Ground.chain }], guard := none }) rfl (fun K hK => ?_) AllReadyH.nil
        go_simp
        go_at_call_of 42 (Value.slice (some ⟨b2, o2, none⟩) m cb)
        refine (HQ.out.2 _ bw33).mono ?_
        rintro e w34 ⟨rfl, h34⟩
        have bw34 : Below wr.heap.size wr w34 := bw33.trans (h34.mono bw33.size)
        have xP34 := (h34.block _ (Array.getElem?_eq_some_iff.1 xP33).1).trans xP33
        have xQ34 := (h34.block _ (Array.getElem?_eq_some_iff.1 xQ33).1).trans xQ33
        clear h34
        try dsimp only
        try go_wp2_with fail
        refine hK.out _ _ ?_ (fun hHeld => ?_)
        · try dsimp only
          all_goals trivial
        clear hK K
        try simp only [Act.put, List.setIfInBounds_toArray, List.set_cons_zero, List.set_cons_succ]
        obtain ⟨fP, p0, p1, p2, p3, p4, p5, p6, p7⟩ := bx8S xP34
        refine wpAnyH_ready (rs := [12]) (by kernel_rfl) (by simp) ?_
        refine AllReadyH.cons (o := { dst := none, op := Op.store 62 (Operand.tmp 7) (Operand.tmp 23), type := 0, pos := "l19_seal.go:67", after := #[{ on := 10, ground := Ground.data }, { on := 4, ground := Ground.data }, { on := 9, ground := Ground.chain }, { on := 0, ground := Ground.phase }, { on := 1, ground := Ground.phase }, { on := 2, ground := Ground.phase }, { on := 3, ground := Ground.phase }, { on := 4, ground := Ground.phase }, { on := 5, ground := Ground.textOnly Departure.lateStores }, { on := 6, ground := Ground.textOnly Departure.lateStores }, { on := 7, ground := Ground.textOnly Departure.lateStoresUnsure }, { on := 8, ground := Ground.textOnly Departure.lateStores }, { on := 9, ground := Ground.textOnly Departure.lateStoresUnsure }, { on := 10, ground := Ground.phase }, { on := 11, ground := Ground.phase }], guard := none }) rfl (fun K hK => ?_) AllReadyH.nil
        go_simp
        refine hK.out _ _ ?_ (fun hHeld => ?_)
        · try dsimp only
          all_goals trivial
        clear hK K
        try simp only [Act.put, List.setIfInBounds_toArray, List.set_cons_zero, List.set_cons_succ]
        have yP := set8S (.int .i64 (fa 0)) (.int .i64 (fa 1)) (.int .i64 (fa 2)) (.int .i64 (fa 3)) (.int .i64 (fa 4)) (.int .i64 (fa 5)) (.int .i64 (fa 6)) (.int .i64 (fa 7)) xP34
        have yQ := (set8O (.int .i64 (fa 0)) (.int .i64 (fa 1)) (.int .i64 (fa 2)) (.int .i64 (fa 3)) (.int .i64 (fa 4)) (.int .i64 (fa 5)) (.int .i64 (fa 6)) (.int .i64 (fa 7)) (Ne.symm (hne28.symm))).trans xQ34
        have yb := set8B (.int .i64 (fa 0)) (.int .i64 (fa 1)) (.int .i64 (fa 2)) (.int .i64 (fa 3)) (.int .i64 (fa 4)) (.int .i64 (fa 5)) (.int .i64 (fa 6)) (.int .i64 (fa 7)) bw34 (bw3).size
        obtain ⟨fQ, q0, q1, q2, q3, q4, q5, q6, q7⟩ := bx8S yQ
        refine wpAnyH_ready (rs := [13]) (by kernel_rfl) (by simp) ?_
        refine AllReadyH.cons (o := { dst := none, op := Op.store 62 (Operand.tmp 8) (Operand.tmp 28), type := 0, pos := "l19_seal.go:67", after := #[{ on := 11, ground := Ground.data }, { on := 9, ground := Ground.data }, { on := 12, ground := Ground.chain }, { on := 0, ground := Ground.phase }, { on := 1, ground := Ground.phase }, { on := 2, ground := Ground.phase }, { on := 3, ground := Ground.phase }, { on := 4, ground := Ground.phase }, { on := 5, ground := Ground.phase }, { on := 6, ground := Ground.phase }, { on := 7, ground := Ground.phase }, { on := 8, ground := Ground.phase }, { on := 9, ground := Ground.phase }, { on := 10, ground := Ground.phase }, { on := 11, ground := Ground.phase }, { on := 12, ground := Ground.phase }], guard := none }) rfl (fun K hK => ?_) AllReadyH.nil
        go_simp
        refine hK.out _ _ ?_ (fun hHeld => ?_)
        · try dsimp only
          all_goals trivial
        clear hK K
        try simp only [Act.put, List.setIfInBounds_toArray, List.set_cons_zero, List.set_cons_succ]
        refine wpAnyH_done (by kernel_rfl) ?_ _
        go_wp2_with fail
        go_meet
        exact ⟨_, _, rfl, rfl, (set8O (.int .i64 (fb 0)) (.int .i64 (fb 1)) (.int .i64 (fb 2)) (.int .i64 (fb 3)) (.int .i64 (fb 4)) (.int .i64 (fb 5)) (.int .i64 (fb 6)) (.int .i64 (fb 7)) (hne28.symm)).trans yP, set8S (.int .i64 (fb 0)) (.int .i64 (fb 1)) (.int .i64 (fb 2)) (.int .i64 (fb 3)) (.int .i64 (fb 4)) (.int .i64 (fb 5)) (.int .i64 (fb 6)) (.int .i64 (fb 7)) yQ, set8B (.int .i64 (fb 0)) (.int .i64 (fb 1)) (.int .i64 (fb 2)) (.int .i64 (fb 3)) (.int .i64 (fb 4)) (.int .i64 (fb 5)) (.int .i64 (fb 6)) (.int .i64 (fb 7)) yb ((bd0 wr)).size⟩
      case rest =>
        obtain ⟨P, Q, rfl, rfl, hP, hQ, hbx⟩ := hcut
        rename World => wx
        have HX : Hid (Below wr.heap.size wr wx) := hbx
        obtain ⟨fP, p0, p1, p2, p3, p4, p5, p6, p7⟩ := bx8S hP
        obtain ⟨fQ, q0, q1, q2, q3, q4, q5, q6, q7⟩ := bx8S hQ
        have hn := fun W => run_neq_pc fa fb W
        clear hbx hP hQ
        by_cases hs : ∀ i, i < 8 → fa i = fb i
        · have HS : Hid (∀ j, j < k + 8 → j < m → za[j]? = zb[j]?) := same8 hma hmb HI.out.1 (by rw [← HI.out.2.2.1, ← HI.out.2.2.2]; exact hs)
          rw [pcB_yes hs] at hn
          clear hs
          go_wp2
          go_roundw
          case rel => exact ⟨k + 8, by go_num, by omega, HS.out, HI.out.2.1.trans (HX.out.mono HI.out.2.1.size)⟩
          case measure => simp [intOf]; omega
        · have hs' : ∃ i, i < 8 ∧ fa i ≠ fb i := by
            refine Classical.byContradiction fun g => hs fun i hi => Classical.byContradiction fun g2 => g ⟨i, hi, g2⟩
          rw [pcB_no hs'] at hn
          have QU := fun W => unlikeAt_any fa fb W hs'
          clear hs hs'
          go_wp2_with fail
          refine (QU _).mono ?_
          rintro e wy ⟨⟨i, rfl, hi, hne, hlt2⟩, hby⟩
          have HD : Hid (unlikeT za zb = ((k + i : Nat) : Int) ∧ k + i < m) := diff8 hma hmb HI.out.1 hi (by rw [← HI.out.2.2.1, ← HI.out.2.2.2]; exact hne) (by rw [← HI.out.2.2.1, ← HI.out.2.2.2]; exact hlt2)
          have HY : Hid (Below wx.heap.size wx wy) := hby
          clear hby hne hlt2 QU hn
          go_wp2
          go_ret
          exact ⟨by rw [HD.out.1]; first | rfl | simp, HI.out.2.1.trans ((HX.out.trans (HY.out.mono HX.out.size)).mono HI.out.2.1.size)⟩
    · have hlt' : ¬ (k : Int) < (m : Int) := by omega
      have HE := eqAll HM.out (by omega : m ≤ k) hall
      have HB : Hid (Below w.heap.size w wr ∧ unlikeT za zb = if za.length = zb.length then -1 else (m : Int)) := ⟨hb, HE⟩
      clear HE hb hall
      by_cases hq : za.length = zb.length
      · have HF : Hid (unlikeT za zb = -1) := by show _ = _; rw [HB.out.2, if_pos hq]
        have hq' : ((za.length : Int) == (zb.length : Int)) = true := by simp [hq]
        clear hq
        go_wp2
        go_ret
        exact ⟨by rw [HF.out]; rfl, HB.out.1⟩
      · have HF : Hid (unlikeT za zb = (m : Int)) := by show _ = _; rw [HB.out.2, if_neg hq]
        have hq' : ((za.length : Int) == (zb.length : Int)) = false := by simp; omega
        clear hq
        go_wp2
        go_ret
        exact ⟨by rw [HF.out]; rfl, HB.out.1⟩
end Go.Proofs.YtibjmokhkjklkaaDoor
