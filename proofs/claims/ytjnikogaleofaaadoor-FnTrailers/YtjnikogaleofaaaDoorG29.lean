/- Texts of ours put together: IxDb, RdE. -/
import Derived.Test.YtjnikogaleofaaaDoorG28
import Derived.Test.YtjnikogaleofaaaDoorG20
import Derived.Test.YtjnikogaleofaaaDoorG23
import Derived.Test.YtjnikogaleofaaaDoorG19
import Derived.Deep.RegionLaw
import Derived.Deep.Cut
import Derived.Deep.CutRange
import Derived.Deep.RegionHeld3
namespace Go.Proofs.YtjnikogaleofaaaDoor
open Go.ChangeShapes Go.WideShapes Go.ChangeAt Go.RowKit
set_option maxHeartbeats 1000000 in
theorem digits_any (n : Int) (w : World) (h0 : 0 ≤ n) (h1 : n ≤ 1000000) (ht : TabOk w) : Calls Tryd.prog 58 #[.agg #[.int .i64 n]] w fun e w' => e = .returned (.string (decS n)) ∧ Below w.heap.size w w' := by
  have b0 : Below w.heap.size w (w.alloc (.cells #[.int .i64 n] 58)) := (Below.refl _ _).alloc (Nat.le_refl _) _
  have HT : Hid (TabOk (w.alloc (.cells #[.int .i64 n] 58))) := ht.below b0
  clear ht
  go_enter Tryd.func58, Tryd.ntmps58
  go_wp2_with fail
  refine (fmt_any n _ (by omega) (by omega) HT.out).mono ?_
  rintro e w1 ⟨rfl, hb1⟩
  have HB : Hid (Below w.heap.size w w1) := b0.trans (hb1.mono (by simp))
  clear hb1
  go_wp2
  go_ret
  exact ⟨rfl, HB.out⟩
end Go.Proofs.YtjnikogaleofaaaDoor
namespace Go.Proofs.YtjnikogaleofaaaDoor
open Go.ChangeShapes Go.WideShapes Go.ChangeAt Go.RowKit
theorem twoE (w : World) (o1 o2 : Obj) : ((w.alloc o1).alloc o2).heap[w.heap.size]? = some o1 ∧ ((w.alloc o1).alloc o2).heap[w.heap.size + 1]? = some o2 := by
  constructor
  · exact (((Below.refl (w.alloc o1).heap.size _).alloc (Nat.le_refl _) o2).block _ (by simp)).trans (World.alloc_heap_new _ _)
  · have := World.alloc_heap_new (w.alloc o1) o2
    simpa using this
theorem undrewE {a b : World} (h : Below a.drew.heap.size a.drew b) : Below a.heap.size a b := (Below.refl _ _).drew.trans h
set_option maxHeartbeats 8000000 in
theorem endedBy_any (n : Int) (cnt : Nat) (tag : ByteArray) (v : Value) (es : List (List ByteArray)) (w : World) (h0 : 0 ≤ n) (h1 : n ≤ 1000000) (hc : cnt ≤ 1000) (h : RowE w v es) (hE : BdE 1048576 es) (hT : TabOk w) :
    Calls Tryd.prog 50 #[.agg #[.int .i64 n], .agg #[.string tag, v], .int .i64 (cnt : Int)] w fun e w' => e = .returned (.int .i64 (endC n cnt (tag, es))) ∧ Below w.heap.size w w' := by
  obtain ⟨A, C, rfl⟩ := h.val
  obtain ⟨z, hz⟩ : ∃ z, z = endC n cnt (tag, es) := ⟨_, rfl⟩
  rw [← hz]
  have HZ : Hid (z = endC n cnt (tag, es)) := hz
  obtain ⟨W0, hW0⟩ : ∃ W0, (w.alloc (.cells #[.int .i64 n] 58)).alloc (.cells #[.string tag, .slice A es.length C] 33) = W0 := ⟨_, rfl⟩
  have hb0 : Below w.heap.size w W0 := by rw [← hW0]; exact ((Below.refl _ _).alloc (Nat.le_refl _) _).alloc (by simp) _
  obtain ⟨i0, i1⟩ := twoE w (.cells #[.int .i64 n] 58) (.cells #[.string tag, .slice A es.length C] 33)
  rw [hW0] at i0 i1
  obtain ⟨B0, hB0⟩ : ∃ B, B = w.heap.size := ⟨_, rfl⟩
  obtain ⟨B1, hB1⟩ : ∃ B, B = w.heap.size + 1 := ⟨_, rfl⟩
  rw [← hB0] at i0
  rw [← hB1] at i1
  have c0 : W0.cell? ⟨B1, 0, none⟩ = some (.string tag) := by simp [World.cell?, i1]
  have c1 : W0.cell? ⟨B1, 1, none⟩ = some (.slice A es.length C) := by simp [World.cell?, i1]
  have HB : Hid (Below w.heap.size w W0 ∧ RowE W0 (.slice A es.length C) es ∧ BdE 1048576 es ∧ TabOk W0) := ⟨hb0, h.below hb0, hE, hT.below hb0⟩
  have HI : Hid (∀ W, Below W0.heap.size W0 W → W.cell? ⟨B0, 0, none⟩ = some (.int .i64 n)) := fun W hW => by
    have := (hW.block B0 (Array.getElem?_eq_some_iff.1 i0).1).trans i0
    simp [World.cell?, this]
  have HW0 : Hid ((w.alloc (.cells #[.int .i64 n] 58)).alloc (.cells #[.string tag, .slice A es.length C] 33) = W0 ∧ B0 = w.heap.size ∧ B1 = w.heap.size + 1) := ⟨hW0, hB0, hB1⟩
  clear hz h hE hT hW0 hB0 hB1 hb0 i0 i1
  go_enter Tryd.func50, Tryd.ntmps50
  go_upto_region 1 with fail
  try rw [HW0.out.1]
  try rw [← HW0.out.2.2]
  try rw [← HW0.out.2.1]
  clear HW0
  go_wp2_with fail
  refine (wordsN_any 2 (by omega) tag _ es _ HB.out.2.1).mono ?_
  rintro e w1 ⟨hb1, hw⟩
  have H1 : Hid (Below W0.heap.size W0 w1) := hb1
  clear hb1 c0 c1
  rcases hw with ⟨ws, q, Cq, hes, hwl, rfl, hcs⟩ | ⟨hno, rfl⟩
  · match ws, hwl with
    | [a, b], _ =>
      have ca := hcs 0 a rfl
      have cb := hcs 1 b rfl
      have HS : Hid (z = if (numT a.data.toList).isSome && (numT b.data.toList).isSome then (if a = decS (cnt : Int) ∧ b = decS n then 0 else 5) else 3) := by show z = _; rw [HZ.out, hes]; rfl
      have za : a.size ≤ 281474976710656 := by
        have := (HB.out.2.2.1.2 0 [a] (by rw [hes]; rfl)).2 0 a rfl
        omega
      have zb : b.size ≤ 281474976710656 := by
        have := (HB.out.2.2.1.2 1 [b] (by rw [hes]; rfl)).2 0 b rfl
        omega
      have Qa := isNumber_any a w1 za
      have Qb := isNumber_any b w1 zb
      clear hes hcs
      cases na : (numT a.data.toList).isSome with
      | false =>
        have HF : Hid (z = 3) := by show z = 3; rw [HS.out, na]; rfl
        rw [na] at Qa
        clear na HS
        go_wp2_with (go_at_call_of 45 (Value.string a); refine Qa.mono ?_; rintro e w' ⟨rfl, rfl⟩)
        go_ret
        exact ⟨by rw [HF.out]; rfl, HB.out.1.trans (H1.out.mono HB.out.1.size)⟩
      | true =>
        rw [na] at Qa
        cases nb : (numT b.data.toList).isSome with
        | false =>
          have HF : Hid (z = 3) := by show z = 3; rw [HS.out, na, nb]; rfl
          rw [nb] at Qb
          clear na nb HS
          go_wp2_with (first | (go_at_call_of 45 (Value.string a); refine Qa.mono ?_; rintro e w' ⟨rfl, rfl⟩) | (go_at_call_of 45 (Value.string b); refine Qb.mono ?_; rintro e w' ⟨rfl, rfl⟩))
          go_ret
          exact ⟨by rw [HF.out]; rfl, HB.out.1.trans (H1.out.mono HB.out.1.size)⟩
        | true =>
          have HS2 : Hid (z = if a = decS (cnt : Int) ∧ b = decS n then 0 else 5) := by show z = _; rw [HS.out, na, nb]; rfl
          rw [nb] at Qb
          clear na nb HS
          go_upto_region 4 with (first | (go_at_call_of 45 (Value.string a); refine Qa.mono ?_; rintro e wn ⟨rfl, hn⟩; rw [hn]; clear hn wn) | (go_at_call_of 45 (Value.string b); refine Qb.mono ?_; rintro e wn ⟨rfl, hn⟩; rw [hn]; clear hn wn))
          have HCq : Hid (∀ W, Below w1.heap.size w1 W → W.cell? ⟨q, 0, none⟩ = some (.string a) ∧ W.cell? ⟨q, 1, none⟩ = some (.string b) ∧ W.cell? ⟨B0, 0, none⟩ = some (.int .i64 n)) := fun W hW => ⟨(hW.cell (cell_lt ca)).trans ca, (hW.cell (cell_lt cb)).trans cb, HI.out W (H1.out.trans (hW.mono H1.out.size))⟩
          have HTb : Hid (∀ W, Below w1.heap.size w1 W → TabOk W) := fun W hW => HB.out.2.2.2.below (H1.out.trans (hW.mono H1.out.size))
          obtain ⟨Dc, hDc⟩ : ∃ D, D = decS (cnt : Int) := ⟨_, rfl⟩
          obtain ⟨Dn, hDn⟩ : ∃ D, D = decS n := ⟨_, rfl⟩
          have QT : Hid (∀ W, Below w1.heap.size w1 W → Calls Tryd.prog 57 #[.int .i64 (cnt : Int)] W fun e w' => e = .returned (.string Dc) ∧ Below W.heap.size W w') := fun W hW => by rw [hDc]; exact itoa_any (cnt : Int) W (by omega) (by omega) (HTb.out W hW)
          have QD : Hid (∀ W, Below w1.heap.size w1 W → Calls Tryd.prog 58 #[.agg #[.int .i64 n]] W fun e w' => e = .returned (.string Dn) ∧ Below W.heap.size W w') := fun W hW => by rw [hDn]; exact digits_any n W h0 h1 (HTb.out W hW)
          rw [← hDc, ← hDn] at HS2
          clear hDc hDn ca cb Qa Qb
          obtain ⟨ca, cb, ci⟩ := HCq.out w1 (Below.refl _ _)
          obtain ⟨ca', cb', ci'⟩ := HCq.out w1.drew (Below.refl _ _).drew
          go_cut [31] from 32 to 45 (fun s31 wx => s31 = .bool (!(decide (a = Dc ∧ b = Dn))) ∧ Below w1.heap.size w1 wx)
          case first =>
            cases ea : (a.toList == Dc.toList) with
            | false =>
              have hne : ¬ (a = Dc ∧ b = Dn) := fun h => by rw [h.1] at ea; simp at ea
              refine wp_region_held_drew (S := fun W => W.cell? ⟨q, 0, none⟩ = some (.string a) ∧ W.cell? ⟨q, 1, none⟩ = some (.string b) ∧ W.cell? ⟨B0, 0, none⟩ = some (.int .i64 n)) (by kernel_rfl) ?_ (fun hHeld => ?_)
              · try dsimp only
                exact ⟨ca, cb, ci⟩
              refine wpAnyH_take (i := 0) (oi := { dst := some 32, op := Op.move (Operand.tmp 7), type := 34, pos := "l03_envelope.go:87", after := #[], guard := none }) (v := ?_) rfl (by kernel_rfl) (by kernel_rfl) (by kernel_rfl) (fun _ _ _ h => h) (Or.inl ⟨by rfl, ?_⟩) (by assumption) ?_
              rotate_left 1
              · intro w hSw
                (try dsimp only at hSw)
                go_simp
                try with_reducible rfl
              try simp only [Act.put, List.setIfInBounds_toArray, List.set_cons_zero, List.set_cons_succ]
              refine wpAnyH_take (i := 1) (oi := { dst := some 33, op := Op.indexAddr 34 (Operand.tmp 32) (Operand.const (Value.int IntKind.i64 0)), type := 0, pos := "l03_envelope.go:87", after := #[{ on := 0, ground := Ground.data }], guard := none }) (v := ?_) rfl (by kernel_rfl) (by kernel_rfl) (by kernel_rfl) (fun _ _ _ h => h) (Or.inl ⟨by rfl, ?_⟩) (by assumption) ?_
              rotate_left 1
              · intro w hSw
                (try dsimp only at hSw)
                go_simp
                try with_reducible rfl
              try simp only [Act.put, List.setIfInBounds_toArray, List.set_cons_zero, List.set_cons_succ]
              refine wpAnyH_take (i := 2) (oi := { dst := some 34, op := Op.load 9 (Operand.tmp 33), type := 9, pos := "l03_envelope.go:87", after := #[{ on := 1, ground := Ground.data }], guard := none }) (v := ?_) rfl (by kernel_rfl) (by kernel_rfl) (by kernel_rfl) (fun _ _ _ h => h) (Or.inl ⟨by rfl, ?_⟩) (by assumption) ?_
              rotate_left 1
              · intro w hSw
                (try dsimp only at hSw)
                go_simp
                try with_reducible rfl
              try simp only [Act.put, List.setIfInBounds_toArray, List.set_cons_zero, List.set_cons_succ]
              refine wpAnyH_take (i := 3) (oi := { dst := some 35, op := Op.move (Operand.tmp 2), type := 3, pos := "l03_envelope.go:87", after := #[], guard := none }) (v := ?_) rfl (by kernel_rfl) (by kernel_rfl) (by kernel_rfl) (fun _ _ _ h => h) (Or.inl ⟨by rfl, ?_⟩) (by assumption) ?_
              rotate_left 1
              · intro w hSw
                (try dsimp only at hSw)
                go_simp
                try with_reducible rfl
              try simp only [Act.put, List.setIfInBounds_toArray, List.set_cons_zero, List.set_cons_succ]
              refine wpAnyH_ready (rs := [4]) (by kernel_rfl) (by simp) ?_
              refine AllReadyH.cons (o := { dst := some 36, op := Op.call { callee := Callee.value (Operand.func 57), args := #[Operand.tmp 35], argTypes := #[3] }, type := 9, pos := "l03_envelope.go:87", after := #[{ on := 3, ground := Ground.data }], guard := none }) rfl (fun K hK => ?_) AllReadyH.nil
              go_simp
              go_at_call 57
              refine (QT.out _ (by first | exact Below.refl _ _ | exact (Below.refl _ _).drew)).mono ?_
              rintro e w2 ⟨rfl, hb2⟩
              have b2 : Below w1.heap.size w1 w2 := (by first | exact hb2 | exact undrewE hb2)
              obtain ⟨k0, k1, k2⟩ := HCq.out w2 b2
              clear hb2
              try dsimp only
              try go_wp2_with fail
              refine hK.out _ _ ?_ (fun hHeld => ?_)
              · try dsimp only
                exact ⟨k0, k1, k2⟩
              clear hK K
              try simp only [Act.put, List.setIfInBounds_toArray, List.set_cons_zero, List.set_cons_succ]
              refine wpAnyH_take (i := 5) (oi := { dst := some 37, op := Op.binOp BinOp.neq 9 (Operand.tmp 34) (Operand.tmp 36) 9, type := 4, pos := "l03_envelope.go:87", after := #[{ on := 2, ground := Ground.data }, { on := 4, ground := Ground.data }], guard := none }) (v := ?_) rfl (by kernel_rfl) (by kernel_rfl) (by kernel_rfl) (fun _ _ _ h => h) (Or.inl ⟨by rfl, ?_⟩) (by assumption) ?_
              rotate_left 1
              · intro w hSw
                (try dsimp only at hSw)
                go_simp
                try with_reducible rfl
              try simp only [Act.put, List.setIfInBounds_toArray, List.set_cons_zero, List.set_cons_succ]
              refine wpAnyH_take (i := 6) (oi := { dst := some 38, op := Op.move (Operand.tmp 37), type := 4, pos := "l03_envelope.go:87", after := #[{ on := 5, ground := Ground.data }, { on := 4, ground := Ground.chain }], guard := none }) (v := ?_) rfl (by kernel_rfl) (by kernel_rfl) (by kernel_rfl) (fun _ _ _ h => h) (Or.inl ⟨by rfl, ?_⟩) (by assumption) ?_
              rotate_left 1
              · intro w hSw
                (try dsimp only at hSw)
                go_simp
                try with_reducible rfl
              try simp only [Act.put, List.setIfInBounds_toArray, List.set_cons_zero, List.set_cons_succ]
              refine wpAnyH_take (i := 7) (oi := { dst := some 39, op := Op.move (Operand.tmp 7), type := 34, pos := "l03_envelope.go:87", after := #[{ on := 6, ground := Ground.guard }], guard := some (6, false) }) (v := undef) rfl (by kernel_rfl) (by kernel_rfl) (by kernel_rfl) (fun _ _ _ h => h) (Or.inr ⟨by rfl, rfl⟩) (by assumption) ?_
              try simp only [Act.put, List.setIfInBounds_toArray, List.set_cons_zero, List.set_cons_succ]
              refine wpAnyH_take (i := 8) (oi := { dst := some 40, op := Op.indexAddr 34 (Operand.tmp 39) (Operand.const (Value.int IntKind.i64 1)), type := 0, pos := "l03_envelope.go:87", after := #[{ on := 7, ground := Ground.data }, { on := 6, ground := Ground.guard }], guard := some (6, false) }) (v := undef) rfl (by kernel_rfl) (by kernel_rfl) (by kernel_rfl) (fun _ _ _ h => h) (Or.inr ⟨by rfl, rfl⟩) (by assumption) ?_
              try simp only [Act.put, List.setIfInBounds_toArray, List.set_cons_zero, List.set_cons_succ]
              refine wpAnyH_take (i := 9) (oi := { dst := some 41, op := Op.load 9 (Operand.tmp 40), type := 9, pos := "l03_envelope.go:87", after := #[{ on := 8, ground := Ground.data }, { on := 6, ground := Ground.guard }], guard := some (6, false) }) (v := undef) rfl (by kernel_rfl) (by kernel_rfl) (by kernel_rfl) (fun _ _ _ h => h) (Or.inr ⟨by rfl, rfl⟩) (by assumption) ?_
              try simp only [Act.put, List.setIfInBounds_toArray, List.set_cons_zero, List.set_cons_succ]
              refine wpAnyH_take (i := 10) (oi := { dst := some 42, op := Op.load 58 (Operand.tmp 3), type := 58, pos := "l03_envelope.go:87", after := #[{ on := 6, ground := Ground.guard }], guard := some (6, false) }) (v := undef) rfl (by kernel_rfl) (by kernel_rfl) (by kernel_rfl) (fun _ _ _ h => h) (Or.inr ⟨by rfl, rfl⟩) (by assumption) ?_
              try simp only [Act.put, List.setIfInBounds_toArray, List.set_cons_zero, List.set_cons_succ]
              refine wpAnyH_take (i := 11) (oi := { dst := some 43, op := Op.call { callee := Callee.value (Operand.func 58), args := #[Operand.tmp 42], argTypes := #[58] }, type := 9, pos := "l03_envelope.go:87", after := #[{ on := 10, ground := Ground.data }, { on := 6, ground := Ground.chain }, { on := 6, ground := Ground.guard }], guard := some (6, false) }) (v := undef) rfl (by kernel_rfl) (by kernel_rfl) (by kernel_rfl) (fun _ _ _ h => h) (Or.inr ⟨by rfl, rfl⟩) (by assumption) ?_
              try simp only [Act.put, List.setIfInBounds_toArray, List.set_cons_zero, List.set_cons_succ]
              refine wpAnyH_take (i := 12) (oi := { dst := some 44, op := Op.binOp BinOp.neq 9 (Operand.tmp 41) (Operand.tmp 43) 9, type := 4, pos := "l03_envelope.go:87", after := #[{ on := 9, ground := Ground.data }, { on := 11, ground := Ground.data }, { on := 6, ground := Ground.guard }], guard := some (6, false) }) (v := undef) rfl (by kernel_rfl) (by kernel_rfl) (by kernel_rfl) (fun _ _ _ h => h) (Or.inr ⟨by rfl, rfl⟩) (by assumption) ?_
              try simp only [Act.put, List.setIfInBounds_toArray, List.set_cons_zero, List.set_cons_succ]
              refine wpAnyH_take (i := 13) (oi := { dst := some 45, op := Op.pick (Operand.tmp 38) (Operand.const (Value.bool true)) (Operand.tmp 44), type := 4, pos := "l03_envelope.go:87", after := #[{ on := 6, ground := Ground.data }, { on := 12, ground := Ground.data }], guard := none }) (v := ?_) rfl (by kernel_rfl) (by kernel_rfl) (by kernel_rfl) (fun _ _ _ h => h) (Or.inl ⟨by rfl, ?_⟩) (by assumption) ?_
              rotate_left 1
              · intro w hSw
                (try dsimp only at hSw)
                go_simp
                try with_reducible rfl
              try simp only [Act.put, List.setIfInBounds_toArray, List.set_cons_zero, List.set_cons_succ]
              refine wpAnyH_take (i := 14) (oi := { dst := some 31, op := Op.assign (Operand.tmp 45), type := 4, pos := "l03_envelope.go:87", after := #[{ on := 13, ground := Ground.data }, { on := 11, ground := Ground.chain }], guard := none }) (v := ?_) rfl (by kernel_rfl) (by kernel_rfl) (by kernel_rfl) (fun _ _ _ h => h) (Or.inl ⟨by rfl, ?_⟩) (by assumption) ?_
              rotate_left 1
              · intro w hSw
                (try dsimp only at hSw)
                go_simp
                try with_reducible rfl
              try simp only [Act.put, List.setIfInBounds_toArray, List.set_cons_zero, List.set_cons_succ]
              refine wpAnyH_done (by kernel_rfl) ?_ _
              go_wp2_with fail
              go_meet
              exact ⟨by rw [decide_eq_false hne]; rfl, b2⟩
            | true =>
              cases eb : (b.toList == Dn.toList)
              all_goals go_region_held3 (fun W => W.cell? ⟨q, 0, none⟩ = some (.string a) ∧ W.cell? ⟨q, 1, none⟩ = some (.string b) ∧ W.cell? ⟨B0, 0, none⟩ = some (.int .i64 n)) (go_keep) (first | (go_at_call 57; refine (QT.out _ (by first | exact Below.refl _ _ | exact (Below.refl _ _).drew)).mono ?_; rintro e w2 ⟨rfl, hb2⟩; have b2 : Below w1.heap.size w1 w2 := (by first | exact hb2 | exact undrewE hb2); obtain ⟨k0, k1, k2⟩ := HCq.out w2 b2; obtain ⟨_, _, _⟩ := HCq.out w2.drew b2.drew; clear hb2; try dsimp only) | (go_at_call 58; refine (QD.out _ (by first | exact b2 | exact b2.drew)).mono ?_; rintro e w3 ⟨rfl, hb3⟩; have b3 : Below w1.heap.size w1 w3 := b2.trans (((by first | exact hb3 | exact undrewE hb3) : Below w2.heap.size w2 w3).mono b2.size); obtain ⟨m0, m1, m2⟩ := HCq.out w3 b3; obtain ⟨_, _, _⟩ := HCq.out w3.drew b3.drew; clear hb3; try dsimp only))
              all_goals rename_i hHeld
              all_goals clear hHeld
              all_goals go_wp2_with fail
              all_goals go_meet
              · have hne : ¬ (a = Dc ∧ b = Dn) := fun h => by rw [h.2] at eb; simp at eb
                exact ⟨by rw [decide_eq_false hne]; first | rfl | simp [ea, eb], b3⟩
              · have hae : a = Dc := by
                  have e1 : a.toList = Dc.toList := by simpa using ea
                  rw [ByteArray.toList_eq, ByteArray.toList_eq] at e1
                  exact ByteArray.ext (Array.toList_inj.1 e1)
                have hbe : b = Dn := by
                  have e1 : b.toList = Dn.toList := by simpa using eb
                  rw [ByteArray.toList_eq, ByteArray.toList_eq] at e1
                  exact ByteArray.ext (Array.toList_inj.1 e1)
                exact ⟨by rw [decide_eq_true ⟨hae, hbe⟩]; first | rfl | simp [ea, eb], b3⟩
          case rest =>
            obtain ⟨rfl, hbx⟩ := hcut
            rename World => wx
            have HX : Hid (Below w.heap.size w wx) := HB.out.1.trans ((H1.out.trans (hbx.mono H1.out.size)).mono HB.out.1.size)
            clear hbx ca cb ci ca' cb' ci'
            by_cases hh : a = Dc ∧ b = Dn
            · have HF : Hid (z = 0) := by show z = 0; rw [HS2.out, if_pos hh]
              rw [decide_eq_true hh]
              clear hh HS2
              go_wp2
              go_ret
              exact ⟨by rw [HF.out]; rfl, HX.out⟩
            · have HF : Hid (z = 5) := by show z = 5; rw [HS2.out, if_neg hh]
              rw [decide_eq_false hh]
              clear hh HS2
              go_wp2
              go_ret
              exact ⟨by rw [HF.out]; rfl, HX.out⟩
  · have HF : Hid (z = 3) := by
      show z = 3
      rw [HZ.out, endC]
      split
      · rename_i a b he
        exact absurd he (hno [a, b] rfl)
      · rfl
    clear hno
    go_wp2
    go_ret
    exact ⟨by rw [HF.out]; rfl, HB.out.1.trans (H1.out.mono HB.out.1.size)⟩
end Go.Proofs.YtjnikogaleofaaaDoor
