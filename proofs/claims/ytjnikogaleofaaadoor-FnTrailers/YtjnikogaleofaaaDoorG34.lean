/- Texts of ours put together: RdX, RdQ. -/
import Derived.Test.YtjnikogaleofaaaDoorG26
import Derived.Test.YtjnikogaleofaaaDoorG29
import Derived.Test.YtjnikogaleofaaaDoorG33
import Derived.Scope
namespace Go.Proofs.YtjnikogaleofaaaDoor
open Go.ChangeShapes Go.WideShapes Go.ChangeAt Go.RowKit
set_option maxRecDepth 20000 in
set_option maxHeartbeats 16000000 in
theorem endIx_any (R b o C nb Cb nm Cm nd Cd : Nat) (Ab Am Ad : Option Addr) (at_ : Nat) (num n k mn : Int) (frm tt : ByteArray) (gs : List Seg) (tag : ByteArray) (es : List (List ByteArray)) (w : World)
    (h : w.heap[R]? = some (.cells #[.slice (some ⟨b, o, none⟩) gs.length C, .int .i64 (at_ : Int), .int .i64 num, .string frm, .string tt, .slice Ab nb Cb, .int .i64 n, .int .i64 k, .slice Am nm Cm, .int .i64 mn, .slice Ad nd Cd] 67)) (hg : RowG w (.slice (some ⟨b, o, none⟩) gs.length C) gs) (hat : gs[at_]? = some (tag, es)) (hE : BdE 1048576 es) (hT : TabOk w) (hl : gs.length ≤ 1000000) (hn0 : 0 ≤ num) (hn1 : num ≤ 1000000) (hnb : nb ≤ 1000) :
    Calls Tryd.prog 36 #[.pointer (some ⟨R, 0, none⟩)] w fun e w' => Keep R w w' ∧ e = .returned (.int .i64 (if nb = 0 then 3 else endC num nb (tag, es))) ∧ w'.heap[R]? = some (.cells (if nb ≠ 0 ∧ endC num nb (tag, es) = 0 then #[.slice (some ⟨b, o, none⟩) gs.length C, .int .i64 ((at_ + 1 : Nat) : Int), .int .i64 num, .string frm, .string tt, .slice Ab nb Cb, .int .i64 n, .int .i64 k, .slice Am nm Cm, .int .i64 mn, .slice Ad nd Cd] else #[.slice (some ⟨b, o, none⟩) gs.length C, .int .i64 (at_ : Int), .int .i64 num, .string frm, .string tt, .slice Ab nb Cb, .int .i64 n, .int .i64 k, .slice Am nm Cm, .int .i64 mn, .slice Ad nd Cd]) 67) := by
  have hlt : at_ < gs.length := (List.getElem?_eq_some_iff.1 hat).1
  have hRl := (Array.getElem?_eq_some_iff.1 h).1
  obtain ⟨b', o', cap, g, u, e, hg', c0, c1, hEs, htz⟩ := hg.at hlt
  rw [hat] at hg'
  cases hg'
  simp only [Value.slice.injEq, Option.some.injEq, Addr.mk.injEq, and_true, true_and] at e
  obtain ⟨⟨rfl, rfl⟩, rfl⟩ := e
  obtain ⟨Au, Cu, rfl⟩ := hEs.val
  dsimp only at c0 c1 hEs htz
  have HR : Hid (∀ W, Below w.heap.size w W → W.heap[R]? = some (.cells #[.slice (some ⟨b, o, none⟩) gs.length C, .int .i64 (at_ : Int), .int .i64 num, .string frm, .string tt, .slice Ab nb Cb, .int .i64 n, .int .i64 k, .slice Am nm Cm, .int .i64 mn, .slice Ad nd Cd] 67) ∧ W.cell? ⟨b, o + at_ * 2, none⟩ = some (.string tag) ∧ W.cell? ⟨b, o + at_ * 2 + 1, none⟩ = some (.slice Au es.length Cu) ∧ RowE W (.slice Au es.length Cu) es ∧ TabOk W ∧ Keep R w W) := fun W hW => ⟨(hW.block R hRl).trans h, (hW.cell (cell_lt c0)).trans c0, (hW.cell (cell_lt c1)).trans c1, hEs.below hW, hT.below hW, Keep.of_below hW⟩
  obtain ⟨z, hz⟩ : ∃ z, z = endC num nb (tag, es) := ⟨_, rfl⟩
  rw [← hz]
  have QN : Hid (∀ W, Below w.heap.size w W → Calls Tryd.prog 49 #[.pointer (some ⟨R, 0, none⟩)] W fun e w' => e = .returned (.agg #[.string tag, .slice Au es.length Cu]) ∧ Below W.heap.size W w') := fun W hW => next_any R b o gs.length C at_ tag Au es.length Cu _ _ _ _ _ _ _ _ _ W (HR.out W hW).1 hlt (HR.out W hW).2.1 (HR.out W hW).2.2.1
  have QE : Hid (∀ W, Below w.heap.size w W → Calls Tryd.prog 50 #[.agg #[.int .i64 num], .agg #[.string tag, .slice Au es.length Cu], .int .i64 (nb : Int)] W fun e w' => e = .returned (.int .i64 z) ∧ Below W.heap.size W w') := fun W hW => by rw [hz]; exact endedBy_any num nb tag _ es W hn0 hn1 hnb (HR.out W hW).2.2.2.1 hE (HR.out W hW).2.2.2.2.1
  have CH : Hid (∀ W, Below w.heap.size w W → W.cell? ⟨R, 0, none⟩ = some (.slice (some ⟨b, o, none⟩) gs.length C) ∧ W.cell? ⟨R, 1, none⟩ = some (.int .i64 (at_ : Int)) ∧ W.cell? ⟨R, 2, none⟩ = some (.int .i64 num) ∧ W.cell? ⟨R, 5, none⟩ = some (.slice Ab nb Cb)) := fun W hW => by
    obtain ⟨r0, r1, r2, r3, r4, r5, r6, r7, r8, r9, r10⟩ := box11R (HR.out W hW).1
    exact ⟨r0, r1, r2, r5⟩
  obtain ⟨zc, hzc⟩ : ∃ zc : Int, zc = (if nb = 0 then 3 else z) := ⟨_, rfl⟩
  obtain ⟨cc, hcc⟩ : ∃ cc : Array Value, cc = (if nb ≠ 0 ∧ z = 0 then #[.slice (some ⟨b, o, none⟩) gs.length C, .int .i64 ((at_ + 1 : Nat) : Int), .int .i64 num, .string frm, .string tt, .slice Ab nb Cb, .int .i64 n, .int .i64 k, .slice Am nm Cm, .int .i64 mn, .slice Ad nd Cd] else #[.slice (some ⟨b, o, none⟩) gs.length C, .int .i64 (at_ : Int), .int .i64 num, .string frm, .string tt, .slice Ab nb Cb, .int .i64 n, .int .i64 k, .slice Am nm Cm, .int .i64 mn, .slice Ad nd Cd]) := ⟨_, rfl⟩
  rw [← hzc, ← hcc]
  have HZC : Hid (zc = (if nb = 0 then 3 else z)) := hzc
  have HCC : Hid (cc = (if nb ≠ 0 ∧ z = 0 then #[.slice (some ⟨b, o, none⟩) gs.length C, .int .i64 ((at_ + 1 : Nat) : Int), .int .i64 num, .string frm, .string tt, .slice Ab nb Cb, .int .i64 n, .int .i64 k, .slice Am nm Cm, .int .i64 mn, .slice Ad nd Cd] else #[.slice (some ⟨b, o, none⟩) gs.length C, .int .i64 (at_ : Int), .int .i64 num, .string frm, .string tt, .slice Ab nb Cb, .int .i64 n, .int .i64 k, .slice Am nm Cm, .int .i64 mn, .slice Ad nd Cd])) := hcc
  clear h hg hEs hE hT c0 c1 hz hzc hcc
  go_enter Tryd.func36, Tryd.ntmps36
  obtain ⟨r0, r1, r2, r5⟩ := CH.out w (Below.refl _ _)
  by_cases h0 : nb = 0
  · have HF : Hid (nb = 0) := h0
    have e1 : zc = 3 := by rw [HZC.out, if_pos h0]
    have e2 : cc = #[.slice (some ⟨b, o, none⟩) gs.length C, .int .i64 (at_ : Int), .int .i64 num, .string frm, .string tt, .slice Ab nb Cb, .int .i64 n, .int .i64 k, .slice Am nm Cm, .int .i64 mn, .slice Ad nd Cd] := by rw [HCC.out, if_neg (fun h => h.1 h0)]
    have HE : Hid _ := e2
    have hb : ((nb : Int) == 0) = true := by simp [h0]
    subst e1
    clear h0 e2
    go_wp2
    go_ret
    exact ⟨Keep.refl _ _, rfl, by rw [HE.out]; exact (HR.out w (Below.refl _ _)).1⟩
  · have HF : Hid (¬ nb = 0) := h0
    have hb : ((nb : Int) == 0) = false := by simp [h0]
    clear h0
    go_upto_region 3 with fail
    clear hb
    go_cut [3] from 11 to 24 (fun s3 wx => s3 = .int .i64 z ∧ Below w.heap.size w wx)
    case first =>
      obtain ⟨_, _, _, _⟩ := CH.out w.drew (Below.refl _ _).drew
      go_region_held3 (fun W => W.cell? ⟨R, 0, none⟩ = some (.slice (some ⟨b, o, none⟩) gs.length C) ∧ W.cell? ⟨R, 1, none⟩ = some (.int .i64 (at_ : Int)) ∧ W.cell? ⟨R, 2, none⟩ = some (.int .i64 num) ∧ W.cell? ⟨R, 5, none⟩ = some (.slice Ab nb Cb)) (go_keep) (first | (go_at_call 49; refine (QN.out _ (by first | exact Below.refl _ _ | exact (Below.refl _ _).drew)).mono ?_; rintro e wa ⟨rfl, hba⟩; have ba : Below w.heap.size w wa := (by first | exact hba | exact undrewE hba); obtain ⟨a0, a1, a2, a5⟩ := CH.out wa ba; obtain ⟨_, _, _, _⟩ := CH.out wa.drew ba.drew; clear hba; try dsimp only) | (go_at_call 50; refine (QE.out _ (by first | exact ba | exact ba.drew)).mono ?_; rintro e wb ⟨rfl, hbb⟩; have bb : Below w.heap.size w wb := ba.trans (((by first | exact hbb | exact undrewE hbb) : Below wa.heap.size wa wb).mono ba.size); obtain ⟨b0, b1, b2, b5⟩ := CH.out wb bb; obtain ⟨_, _, _, _⟩ := CH.out wb.drew bb.drew; clear hbb; try dsimp only))
      all_goals rename_i hHeld
      all_goals clear hHeld
      all_goals go_wp2_with fail
      all_goals go_meet
      all_goals exact ⟨rfl, bb⟩
    case rest =>
      obtain ⟨rfl, hbx⟩ := hcut
      rename World => wx
      have HX : Hid (Below w.heap.size w wx) := hbx
      clear hbx r0 r1 r2 r5
      by_cases hz0 : z = 0
      · subst hz0
        have hR := (HR.out wx HX.out).1
        have HB : Hid _ := hR
        have hfz := frozeR hR
        obtain ⟨r0, r1, r2, r3, r4, r5, r6, r7, r8, r9, r10⟩ := box11R hR
        have hw : IntKind.i64.wrap ((at_ : Int) + 1) = (at_ : Int) + 1 := by rw [IntKind.wrap_i64]; omega
        clear hR
        go_wp2
        go_ret
        exact ⟨(HR.out wx HX.out).2.2.2.2.2.setR 1 _, by rw [HZC.out, if_neg HF.out]; rfl, by rw [HCC.out, if_pos ⟨HF.out, by first | rfl | trivial⟩]; exact setR1 HB.out⟩
      · have HZ : Hid (¬ z = 0) := hz0
        have g0 : (z == 0) = false := by simp [hz0]
        clear hz0
        go_wp2
        go_ret
        exact ⟨(HR.out wx HX.out).2.2.2.2.2, by rw [HZC.out, if_neg HF.out]; rfl, by rw [HCC.out, if_neg (fun h => HZ.out h.2)]; exact (HR.out wx HX.out).1⟩
end Go.Proofs.YtjnikogaleofaaaDoor
namespace Go.Proofs.YtjnikogaleofaaaDoor
open Go.ChangeShapes Go.WideShapes Go.ChangeAt Go.RowKit
/-- As Q; by a goto to label l: J l. -/
def jumpsX (J : Nat → Act → World → Prop) (Q : Exit → Act → World → Prop) : Exit → Act → World → Prop
  | .goto l, a, w => J l a w
  | e, a, w => Q e a w
/-- A scope in which the run goes on at labels: what holds at each, a measure that each pass lowers; the code begins at label l0. -/
theorem wp_scope_many {P : Program} {a : Act} {w : World} {Q : Exit → Act → World → Prop} {c r0 : Code} (l0 : Nat) (J : Nat → Act → World → Prop) (μ : Act → World → Nat)
    (hc : c = .seq (.label l0) r0) (h0 : J l0 a w)
    (pass : ∀ l a w, J l a w → ∃ r, findLabel c l = some (.seq .skip r) ∧ r.wp P (jumpsX (fun l' a' w' => J l' a' w' ∧ μ a' w' < μ a w) Q) a w) : (Code.scope c).wp P Q a w := by
  intro b k cs
  have pass' : ∀ l a w, J l a w → ∃ rest, findLabel c l = some rest ∧ rest.wp P (jumpsX (fun l' a' w' => J l' a' w' ∧ μ a' w' < μ a w) Q) a w := fun l a w h => by
    obtain ⟨r, hr, hw⟩ := pass l a w h
    exact ⟨_, hr, wp_seq (wp_skip hw)⟩
  have key : ∀ n l a w, μ a w = n → J l a w → ∀ rest, findLabel c l = some rest → ∃ e a' w', Q e a' w' ∧ Arrives P (lone (b.at a (.code rest :: .inScope c :: k)) cs w) b k cs e a' w' := by
    intro n
    induction n using Nat.strongRecOn with
    | _ n ih =>
      intro l a w hn hJ rest hr
      obtain ⟨rest', hr', hp⟩ := pass' l a w hJ
      obtain rfl : rest = rest' := Option.some.inj (hr.symm.trans hr')
      obtain ⟨e, a₁, w₁, hq, harr⟩ := hp b (.inScope c :: k) cs
      cases e with
      | normal => exact ⟨.normal, a₁, w₁, hq, Steps.trans harr (.one step_inScope)⟩
      | exit id => exact ⟨.exit id, a₁, w₁, hq, fun k' hk => harr k' (by simp [exitTo, hk])⟩
      | goto l' =>
        obtain ⟨hJ', hlt⟩ := hq
        obtain ⟨rest₂, hr₂, _⟩ := pass' l' a₁ w₁ hJ'
        have hg : gotoIn l' (.inScope c :: k) = some (.code rest₂ :: .inScope c :: k) := by simp [gotoIn, hr₂]
        obtain ⟨e₂, a₂, w₂, hq₂, harr₂⟩ := ih _ (by omega) l' a₁ w₁ rfl hJ' rest₂ hr₂
        exact ⟨e₂, a₂, w₂, hq₂, .of_steps (harr _ hg) harr₂⟩
      | ret => exact ⟨_, a₁, w₁, hq, harr⟩
      | panic ch => exact ⟨_, a₁, w₁, hq, harr⟩
      | outgrown => exact ⟨_, a₁, w₁, hq, harr⟩
  have first : c.wp P (jumpsX J Q) a w := by
    obtain ⟨r, hr, hp⟩ := pass l0 a w h0
    rw [hc] at hr ⊢
    obtain rfl : r0 = r := by simpa [findLabel] using hr
    refine wp_seq (wp_label (wp_mono hp fun e a' w' hq => ?_))
    cases e <;> first | exact hq | exact hq.1
  obtain ⟨e, a₁, w₁, hq, harr⟩ := first b (.inScope c :: k) cs
  cases e with
  | normal => exact ⟨.normal, a₁, w₁, hq, .head step_scope (Steps.trans harr (.one step_inScope))⟩
  | exit id => exact ⟨.exit id, a₁, w₁, hq, fun k' hk => .head step_scope (harr k' (by simp [exitTo, hk]))⟩
  | goto l' =>
    obtain ⟨rest₂, hr₂, _⟩ := pass' l' a₁ w₁ hq
    have hg : gotoIn l' (.inScope c :: k) = some (.code rest₂ :: .inScope c :: k) := by simp [gotoIn, hr₂]
    obtain ⟨e₂, a₂, w₂, hq₂, harr₂⟩ := key _ l' a₁ w₁ rfl hq rest₂ hr₂
    exact ⟨e₂, a₂, w₂, hq₂, .of_steps (.head step_scope (harr _ hg)) harr₂⟩
  | ret => exact ⟨_, a₁, w₁, hq, .of_steps (.one step_scope) harr⟩
  | panic ch => exact ⟨_, a₁, w₁, hq, .of_steps (.one step_scope) harr⟩
  | outgrown => exact ⟨_, a₁, w₁, hq, .of_steps (.one step_scope) harr⟩
/-- What is still to be read from here comes to the code c at place p, with the bundles bsF. -/
structure RdI (num c : Int) (p : Nat) (bsF : List Bun) (gs : List Seg) (at_ ph : Nat) (s : RdS) : Prop where
  hc : (rdIx num (gs.drop at_) ph s).1 = c
  hp : at_ + (rdIx num (gs.drop at_) ph s).2.1 = p
  hb : (rdIx num (gs.drop at_) ph s).2.2 = bsF
theorem RdI.next {num c : Int} {p at_ ph ph' : Nat} {bsF : List Bun} {gs : List Seg} {s s' : RdS} {g : Seg} (h : RdI num c p bsF gs at_ ph s) (hg : gs[at_]? = some g) (hs : rdStep num ph s g = .inr (ph', s')) : RdI num c p bsF gs (at_ + 1) ph' s' := by
  obtain ⟨h1, h2, h3⟩ := h
  rw [rdIx_next hg hs] at h1 h2 h3
  exact ⟨h1, by dsimp only at h2; omega, h3⟩
theorem RdI.stop {num c c' : Int} {p at_ ph : Nat} {bsF : List Bun} {gs : List Seg} {s : RdS} {g : Seg} (h : RdI num c p bsF gs at_ ph s) (hg : gs[at_]? = some g) (hs : rdStep num ph s g = .inl c') : c' = c ∧ at_ = p := by
  obtain ⟨h1, h2, h3⟩ := h
  rw [rdIx_stop hg hs] at h1 h2 h3
  exact ⟨h1, by simpa using h2⟩
theorem RdI.fin {num c : Int} {p at_ ph : Nat} {bsF : List Bun} {gs : List Seg} {s : RdS} (h : RdI num c p bsF gs at_ ph s) (hl : gs.length ≤ at_) : c = (if ph = 3 then 0 else 4) ∧ at_ = p ∧ bsF = s.bs := by
  obtain ⟨h1, h2, h3⟩ := h
  rw [rdIx_end hl] at h1 h2 h3
  exact ⟨h1.symm, by simpa using h2, h3.symm⟩
theorem sameR {R : Nat} {w w' : World} {c0 : Array Value} (hk : Keep R w w') (hr : w.heap[R]? = some (.cells c0 67)) : SameT 67 w w' := fun g c t' ht h0 => by
  refine (hk.block g (Array.getElem?_eq_some_iff.1 h0).1 fun e => ?_).trans h0
  rw [e, hr] at h0
  simp only [Option.some.injEq, Obj.cells.injEq] at h0
  exact ht h0.2.1.symm
theorem OwnM.keepR {N : Nat} {W W' : World} {mv : Value} {ms : List MsgV} (h : OwnM N W mv ms) (hs : SameT 67 W W') : OwnM N W' mv ms :=
  ⟨row_sameT h.row hs (by decide), fun x hx => (h.body x hx).sameT hs (by decide) (by decide) (by decide)⟩
theorem OwnBs.keepR {N : Nat} {W W' : World} {v : Value} {bs : List BunV} (h : OwnBs N W v bs) (hs : SameT 67 W W') : OwnBs N W' v bs :=
  ⟨row_sameT h.row hs (by decide), fun x hx => ⟨(h.msgs x hx).1.keepR hs, (h.msgs x hx).2⟩, h.sep⟩
theorem Rd1.keepR {N : Nat} {W W' : World} {bv mv : Value} {bs : List BunV} {ms : List MsgV} (h : Rd1 N W bv bs mv ms) (hs : SameT 67 W W') : Rd1 N W' bv bs mv ms := ⟨h.bnd.keepR hs, h.mss.keepR hs, h.sep⟩
/-- A bundle or the end may stand next. -/
def RS0 (R N b o C : Nat) (num : Int) (frm tt : ByteArray) (w0 : World) (gs : List Seg) (w : World) (at_ : Nat) (s : RdS) : Prop := ∃ (Ab : Option Addr) (Cb : Nat) (Am : Option Addr) (nm Cm : Nat) (Ad : Option Addr) (nd Cd : Nat) (n k mn : Int) (bs : List BunV), bs.map (·.1) = s.bs ∧ bs.length ≤ 5 ∧ w.heap[R]? = some (.cells #[.slice (some ⟨b, o, none⟩) gs.length C, .int .i64 (at_ : Int), .int .i64 num, .string frm, .string tt, .slice Ab bs.length Cb, .int .i64 n, .int .i64 k, .slice Am nm Cm, .int .i64 mn, .slice Ad nd Cd] 67) ∧ OwnBs N w (.slice Ab bs.length Cb) bs ∧ Below w0.heap.size w0 w ∧ N ≤ w.heap.size ∧ at_ ≤ gs.length
/-- A message or the bundle's end. -/
def RS1 (R N b o C : Nat) (num : Int) (frm tt : ByteArray) (w0 : World) (gs : List Seg) (w : World) (at_ : Nat) (s : RdS) : Prop := ∃ (Ab : Option Addr) (Cb : Nat) (Am : Option Addr) (Cm : Nat) (Ad : Option Addr) (nd Cd : Nat) (mn : Int) (bs : List BunV) (ms : List MsgV), bs.map (·.1) = s.bs ∧ ms.map (·.1) = s.ms ∧ (bs.length ≤ 4 ∧ ms.length ≤ 10 ∧ 0 ≤ s.n ∧ s.n ≤ 1000000) ∧ w.heap[R]? = some (.cells #[.slice (some ⟨b, o, none⟩) gs.length C, .int .i64 (at_ : Int), .int .i64 num, .string frm, .string tt, .slice Ab bs.length Cb, .int .i64 s.n, .int .i64 s.k, .slice Am ms.length Cm, .int .i64 mn, .slice Ad nd Cd] 67) ∧ Rd1 N w (.slice Ab bs.length Cb) bs (.slice Am ms.length Cm) ms ∧ Below w0.heap.size w0 w ∧ N ≤ w.heap.size ∧ at_ ≤ gs.length
/-- A segment or the message's end. -/
def RS2 (R N b o C : Nat) (num : Int) (frm tt : ByteArray) (w0 : World) (gs : List Seg) (w : World) (at_ : Nat) (s : RdS) : Prop := ∃ (Ab : Option Addr) (Cb : Nat) (Am : Option Addr) (Cm : Nat) (Ad : Option Addr) (Cd : Nat) (bs : List BunV) (ms : List MsgV) (ps : List (Value × List Value)), bs.map (·.1) = s.bs ∧ ms.map (·.1) = s.ms ∧ (bs.length ≤ 4 ∧ ms.length ≤ 9 ∧ s.bd.length ≤ 40 ∧ 0 ≤ s.n ∧ s.n ≤ 1000000 ∧ 0 ≤ s.mn ∧ s.mn ≤ 1000000) ∧ w.heap[R]? = some (.cells #[.slice (some ⟨b, o, none⟩) gs.length C, .int .i64 (at_ : Int), .int .i64 num, .string frm, .string tt, .slice Ab bs.length Cb, .int .i64 s.n, .int .i64 s.k, .slice Am ms.length Cm, .int .i64 s.mn, .slice Ad s.bd.length Cd] 67) ∧ Rd2 N w (.slice Ab bs.length Cb) bs (.slice Am ms.length Cm) ms (.slice Ad s.bd.length Cd) ps s.bd ∧ Below w0.heap.size w0 w ∧ N ≤ w.heap.size ∧ at_ ≤ gs.length
/-- The place of the next segment. -/
def placeR (R : Nat) (w : World) : Nat := match w.cell? ⟨R, 1, none⟩ with
  | some (.int _ k) => k.toNat
  | _ => 0
theorem placeR_of {R at_ t : Nat} {w : World} {x0 x2 x3 x4 x5 x6 x7 x8 x9 x10 : Value} (h : w.heap[R]? = some (.cells #[x0, .int .i64 (at_ : Int), x2, x3, x4, x5, x6, x7, x8, x9, x10] t)) : placeR R w = at_ := by
  obtain ⟨_, c1, _⟩ := box11R h
  rw [placeR, c1]
  simp
/-- What read comes to. -/
def RdF (R N b o C : Nat) (num : Int) (frm tt : ByteArray) (w0 : World) (gs : List Seg) (c : Int) (p : Nat) (bsF : List Bun) (w : World) : Prop := ∃ (bv x6 x7 x8 x9 x10 : Value), w.heap[R]? = some (.cells #[.slice (some ⟨b, o, none⟩) gs.length C, .int .i64 (p : Int), .int .i64 num, .string frm, .string tt, bv, x6, x7, x8, x9, x10] 67) ∧ (c = 0 → ∃ Ab Cb bs, bv = .slice Ab bs.length Cb ∧ bs.map (·.1) = bsF ∧ bs.length ≤ 5 ∧ OwnBs N w (.slice Ab bs.length Cb) bs) ∧ Below w0.heap.size w0 w ∧ N ≤ w.heap.size
theorem up0 {R N S : Nat} {w0 w w' : World} {cs : Array Value} {bv : Value} {bs : List BunV} (h : w.heap[R]? = some (.cells cs 67) ∧ OwnBs N w bv bs ∧ Below S w0 w ∧ N ≤ w.heap.size) (hb : Below w.heap.size w w') (hS : S ≤ w.heap.size) : w'.heap[R]? = some (.cells cs 67) ∧ OwnBs N w' bv bs ∧ Below S w0 w' ∧ N ≤ w'.heap.size :=
  ⟨(hb.block R (Array.getElem?_eq_some_iff.1 h.1).1).trans h.1, h.2.1.below hb, h.2.2.1.trans (hb.mono hS), Nat.le_trans h.2.2.2 hb.size⟩
theorem up1 {R N S : Nat} {w0 w w' : World} {cs : Array Value} {bv mv : Value} {bs : List BunV} {ms : List MsgV} (h : w.heap[R]? = some (.cells cs 67) ∧ Rd1 N w bv bs mv ms ∧ Below S w0 w ∧ N ≤ w.heap.size) (hb : Below w.heap.size w w') (hS : S ≤ w.heap.size) : w'.heap[R]? = some (.cells cs 67) ∧ Rd1 N w' bv bs mv ms ∧ Below S w0 w' ∧ N ≤ w'.heap.size :=
  ⟨(hb.block R (Array.getElem?_eq_some_iff.1 h.1).1).trans h.1, h.2.1.below hb, h.2.2.1.trans (hb.mono hS), Nat.le_trans h.2.2.2 hb.size⟩
theorem up2 {R N S : Nat} {w0 w w' : World} {cs : Array Value} {bv mv dv : Value} {bs : List BunV} {ms : List MsgV} {ps : List (Value × List Value)} {bd : List Seg} (h : w.heap[R]? = some (.cells cs 67) ∧ Rd2 N w bv bs mv ms dv ps bd ∧ Below S w0 w ∧ N ≤ w.heap.size) (hb : Below w.heap.size w w') (hS : S ≤ w.heap.size) : w'.heap[R]? = some (.cells cs 67) ∧ Rd2 N w' bv bs mv ms dv ps bd ∧ Below S w0 w' ∧ N ≤ w'.heap.size :=
  ⟨(hb.block R (Array.getElem?_eq_some_iff.1 h.1).1).trans h.1, h.2.1.below hb, h.2.2.1.trans (hb.mono hS), Nat.le_trans h.2.2.2 hb.size⟩
end Go.Proofs.YtjnikogaleofaaaDoor
