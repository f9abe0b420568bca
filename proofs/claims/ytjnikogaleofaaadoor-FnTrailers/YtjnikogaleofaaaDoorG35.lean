/- Texts of ours put together: RdP, RdR. -/
import Derived.Test.YtjnikogaleofaaaDoorG20
import Derived.Test.YtjnikogaleofaaaDoorG34
import Derived.WalkMore
import Derived.ScopeJumps
namespace Go.Proofs.YtjnikogaleofaaaDoor
open Go.ChangeShapes Go.WideShapes Go.ChangeAt Go.RowKit
theorem st0_end0 {num : Int} {s : RdS} {g : Seg} (ht : g.1 = ⟨#[73, 88, 84]⟩) (hb : s.bs = []) : rdStep num 0 s g = .inl 3 := by simp [rdStep, ht, hb]
theorem st0_endz {num : Int} {s : RdS} {g : Seg} (ht : g.1 = ⟨#[73, 88, 84]⟩) (hb : s.bs ≠ []) (hz : endC num s.bs.length g ≠ 0) : rdStep num 0 s g = .inl (endC num s.bs.length g) := by simp [rdStep, ht, hb, hz]
theorem st0_end {num : Int} {s : RdS} {g : Seg} (ht : g.1 = ⟨#[73, 88, 84]⟩) (hb : s.bs ≠ []) (hz : endC num s.bs.length g = 0) : rdStep num 0 s g = .inr (3, s) := by simp [rdStep, ht, hb, hz]
theorem st0_begin {num k n : Int} {s : RdS} {g : Seg} (h1 : g.1 = ⟨#[71, 82, 72]⟩) (h2 : s.bs.length ≠ 5) (h3 : hdGR g = some (k, n)) : rdStep num 0 s g = .inr (1, { s with k := k, n := n, ms := [] }) := by
  have : ¬ (⟨#[71, 82, 72]⟩ : ByteArray) = ⟨#[73, 88, 84]⟩ := by decide
  simp [rdStep, h1, this, h2, h3]
theorem st0_no {num : Int} {s : RdS} {g : Seg} (ht : ¬ g.1 = ⟨#[73, 88, 84]⟩) (h : ¬ (g.1 = ⟨#[71, 82, 72]⟩ ∧ s.bs.length ≠ 5 ∧ (hdGR g).isSome = true)) : rdStep num 0 s g = .inl 3 := by
  unfold rdStep
  rw [if_pos rfl, if_neg ht]
  by_cases h1 : g.1 = ⟨#[71, 82, 72]⟩ ∧ s.bs.length ≠ 5
  · rw [if_pos h1]
    cases e : hdGR g with
    | none => rfl
    | some q => exact absurd ⟨h1.1, h1.2, by rw [e]; rfl⟩ h
  · rw [if_neg h1]
theorem st1_end0 {num : Int} {s : RdS} {g : Seg} (ht : g.1 = ⟨#[71, 82, 84]⟩) (hb : s.ms = []) : rdStep num 1 s g = .inl 3 := by simp [rdStep, ht, hb]
theorem st1_endz {num : Int} {s : RdS} {g : Seg} (ht : g.1 = ⟨#[71, 82, 84]⟩) (hb : s.ms ≠ []) (hz : endC s.n s.ms.length g ≠ 0) : rdStep num 1 s g = .inl (endC s.n s.ms.length g) := by simp [rdStep, ht, hb, hz]
theorem st1_end {num : Int} {s : RdS} {g : Seg} (ht : g.1 = ⟨#[71, 82, 84]⟩) (hb : s.ms ≠ []) (hz : endC s.n s.ms.length g = 0) : rdStep num 1 s g = .inr (0, { s with bs := s.bs ++ [⟨s.k, s.n, s.ms⟩] }) := by simp [rdStep, ht, hb, hz]
theorem st1_begin {num n : Int} {s : RdS} {g : Seg} (h1 : g.1 = ⟨#[77, 83, 72]⟩) (h2 : s.ms.length ≠ 10) (h3 : hdMS g = some n) : rdStep num 1 s g = .inr (2, { s with mn := n, bd := [] }) := by
  have : ¬ (⟨#[77, 83, 72]⟩ : ByteArray) = ⟨#[71, 82, 84]⟩ := by decide
  simp [rdStep, h1, this, h2, h3]
theorem st1_no {num : Int} {s : RdS} {g : Seg} (ht : ¬ g.1 = ⟨#[71, 82, 84]⟩) (h : ¬ (g.1 = ⟨#[77, 83, 72]⟩ ∧ s.ms.length ≠ 10 ∧ (hdMS g).isSome = true)) : rdStep num 1 s g = .inl 3 := by
  unfold rdStep
  rw [if_neg (by omega), if_pos rfl, if_neg ht]
  by_cases h1 : g.1 = ⟨#[77, 83, 72]⟩ ∧ s.ms.length ≠ 10
  · rw [if_pos h1]
    cases e : hdMS g with
    | none => rfl
    | some q => exact absurd ⟨h1.1, h1.2, by rw [e]; rfl⟩ h
  · rw [if_neg h1]
theorem st2_endz {num : Int} {s : RdS} {g : Seg} (ht : g.1 = ⟨#[77, 83, 84]⟩) (hz : endC s.mn s.bd.length g ≠ 0) : rdStep num 2 s g = .inl (endC s.mn s.bd.length g) := by simp [rdStep, ht, hz]
theorem st2_end {num : Int} {s : RdS} {g : Seg} (ht : g.1 = ⟨#[77, 83, 84]⟩) (hz : endC s.mn s.bd.length g = 0) : rdStep num 2 s g = .inr (1, { s with ms := s.ms ++ [⟨s.mn, s.bd⟩] }) := by simp [rdStep, ht, hz]
theorem st2_seg {num : Int} {s : RdS} {g : Seg} (ht : ¬ g.1 = ⟨#[77, 83, 84]⟩) (h1 : bodyB g = true) (h2 : s.bd.length ≠ 40) : rdStep num 2 s g = .inr (2, { s with bd := s.bd ++ [g] }) := by simp [rdStep, ht, h1, h2]
theorem st2_no {num : Int} {s : RdS} {g : Seg} (ht : ¬ g.1 = ⟨#[77, 83, 84]⟩) (h : ¬ (bodyB g = true ∧ s.bd.length ≠ 40)) : rdStep num 2 s g = .inl 3 := by
  unfold rdStep
  rw [if_neg (by omega), if_neg (by omega), if_pos rfl, if_neg ht, if_neg h]
theorem st3_no {num : Int} {s : RdS} {g : Seg} : rdStep num 3 s g = .inl 3 := by simp [rdStep]
theorem numIn_bdR {l : List UInt8} {lo hi n : Int} (h : numIn l lo hi = some n) : lo ≤ n ∧ n ≤ hi := by
  unfold numIn at h
  split at h
  · split at h
    · cases h
      assumption
    · cases h
  · cases h
theorem hdGR_bd {g : Seg} {k n : Int} (h : hdGR g = some (k, n)) : 1 ≤ n ∧ n ≤ 999999 := by
  unfold hdGR at h
  split at h
  · rename_i a b e
    split at h
    · rename_i k' n' hk hn
      cases h
      exact numIn_bdR hn
    · cases h
  · cases h
theorem hdMS_bd {g : Seg} {n : Int} (h : hdMS g = some n) : 1 ≤ n ∧ n ≤ 999999 := by
  unfold hdMS at h
  split at h
  · exact numIn_bdR h
  · cases h
theorem tag_beq {s t : ByteArray} (h : ¬ s = t) : (s.toList == t.toList) = false := by
  have h0 : ¬ s.toList = t.toList := fun e => h (by rw [ByteArray.toList_eq, ByteArray.toList_eq] at e; exact ByteArray.ext (Array.toList_inj.1 e))
  rw [beq_eq_false_iff_ne]
  exact h0
theorem tag_beq1 {s t : ByteArray} (h : s = t) : (s.toList == t.toList) = true := by rw [h]; simp
end Go.Proofs.YtjnikogaleofaaaDoor
namespace Go.Proofs.YtjnikogaleofaaaDoor
open Go.ChangeShapes Go.WideShapes Go.ChangeAt Go.RowKit
/-- What holds at each label. -/
def JX (R N b o C : Nat) (num : Int) (frm tt : ByteArray) (w0 : World) (gs : List Seg) (c : Int) (p : Nat) (bsF : List Bun) (l : Nat) (a : Act) (w : World) : Prop := (∃ (u3 u4 u5 u6 u7 u8 u9 u10 u11 u12 u13 u14 u15 u16 u17 u18 u19 u20 u21 u22 u23 u24 u25 u26 u27 u28 u29 u30 u31 u32 u33 u34 u35 u36 u37 u38 u39 u40 u41 u42 u43 u44 : Value), a = { tmps := #[.pointer (some ⟨R, 0, none⟩), undef, .int .i64 0, u3, u4, u5, u6, u7, u8, u9, u10, u11, u12, u13, u14, u15, u16, u17, u18, u19, u20, u21, u22, u23, u24, u25, u26, u27, u28, u29, u30, u31, u32, u33, u34, u35, u36, u37, u38, u39, u40, u41, u42, u43, u44], defers := [] }) ∧ ∃ (at_ : Nat) (s : RdS), (l = 0 ∧ RdI num c p bsF gs at_ 0 s ∧ RS0 R N b o C num frm tt w0 gs w at_ s) ∨ (l = 2 ∧ RdI num c p bsF gs at_ 1 s ∧ RS1 R N b o C num frm tt w0 gs w at_ s) ∨ (l = 3 ∧ RdI num c p bsF gs at_ 2 s ∧ RS2 R N b o C num frm tt w0 gs w at_ s) ∨ (l = 1 ∧ RdI num c p bsF gs at_ 3 s ∧ RS0 R N b o C num frm tt w0 gs w at_ s)
set_option maxRecDepth 100000 in
set_option maxHeartbeats 64000000 in
theorem read_any (R N b o C : Nat) (num : Int) (frm tt : ByteArray) (w0 : World) (gs : List Seg) (c : Int) (p : Nat) (bsF : List Bun) (at0 : Nat) (s0 : RdS) (w : World) (hg : RowG w0 (.slice (some ⟨b, o, none⟩) gs.length C) gs) (hz : ∀ g ∈ gs, g.1.size ≤ 1048576 ∧ BdE 1048576 g.2) (hT : TabOk w0) (hEr : ErrsAt w0) (hl : gs.length ≤ 1000000) (hn0 : 0 ≤ num) (hn1 : num ≤ 1000000) (hR0 : w0.heap.size ≤ R) (hRN : R < N) (hI0 : RdI num c p bsF gs at0 0 s0) (hS0 : RS0 R N b o C num frm tt w0 gs w at0 s0) :
    Calls Tryd.prog 22 #[.pointer (some ⟨R, 0, none⟩)] w fun e w' => e = .returned (.int .i64 c) ∧ RdF R N b o C num frm tt w0 gs c p bsF w' := by
  have HG : Hid (RowG w0 (.slice (some ⟨b, o, none⟩) gs.length C) gs ∧ (∀ g ∈ gs, g.1.size ≤ 1048576 ∧ BdE 1048576 g.2) ∧ TabOk w0 ∧ ErrsAt w0) := ⟨hg, hz, hT, hEr⟩
  have HN : Hid (gs.length ≤ 1000000 ∧ 0 ≤ num ∧ num ≤ 1000000 ∧ w0.heap.size ≤ R ∧ R < N) := ⟨hl, hn0, hn1, hR0, hRN⟩
  clear hg hz hT hEr
  go_enter Tryd.func22, Tryd.ntmps22
  go_wp2_with fail
  refine wp_scope_many 0 (JX R N b o C num frm tt w0 gs c p bsF) (fun _ w => gs.length + 1 - placeR R w) rfl ⟨⟨_, _, _, _, _, _, _, _, _, _, _, _, _, _, _, _, _, _, _, _, _, _, _, _, _, _, _, _, _, _, _, _, _, _, _, _, _, _, _, _, _, _, rfl⟩, at0, s0, .inl ⟨rfl, hI0, hS0⟩⟩ ?_
  clear hI0 hS0
  rintro l a wI ⟨⟨u3, u4, u5, u6, u7, u8, u9, u10, u11, u12, u13, u14, u15, u16, u17, u18, u19, u20, u21, u22, u23, u24, u25, u26, u27, u28, u29, u30, u31, u32, u33, u34, u35, u36, u37, u38, u39, u40, u41, u42, u43, u44, rfl⟩, atI, s, h⟩
  rcases h with ⟨rfl, hI, hS⟩ | ⟨rfl, hI, hS⟩ | ⟨rfl, hI, hS⟩ | ⟨rfl, hI, hS⟩
  · refine ⟨_, rfl, ?_⟩
    have HI : Hid _ := hI
    clear hI
    have hge : atI ≤ atI := Nat.le_refl _
    have HM : Hid (placeR R wI = atI) := by obtain ⟨_, _, _, _, _, _, _, _, _, _, _, _, _, _, hx, _⟩ := hS; exact placeR_of hx
    obtain ⟨Ab, Cb, Am, nm, Cm, Ad, nd, Cd, n, k, mn, bs, hbs1, hbl1, hX, hO, hB, hN, hat1⟩ := hS
    have HS1 : Hid (bs.map (·.1) = s.bs) := hbs1
    have H1 : Hid _ := And.intro hX (And.intro hO (And.intro hB hN))
    have hS1 := hB.size
    clear hX hO hB hN hbs1
    by_cases hend2 : gs.length ≤ atI
    · have ho : ((atI : Int) == (gs.length : Int)) = true := by simp; omega
      have QO := over_any R _ gs.length C (atI : Int) _ _ _ _ _ _ _ _ _ wI H1.out.1
      rw [ho] at QO
      go_wp2_with fail
      refine (QO).mono ?_
      rintro ew2 w2 ⟨rfl, hb⟩
      have HH2 : Hid _ := up0 H1.out hb hS1
      clear hb QO ho
      have HF3 : Hid (4 = c ∧ atI = p) := by have := HI.out.fin hend2; simp at this; exact ⟨this.1.symm, this.2.1⟩
      go_wp2_with fail
      simp only [jumpsX]
      go_ret
      exact ⟨by rw [← HF3.out.1]; rfl, _, _, _, _, _, _, by rw [← HF3.out.2]; exact HH2.out.1, fun h0 => absurd (HF3.out.1.trans h0) (by decide), HH2.out.2.2⟩
    have ho : ((atI : Int) == (gs.length : Int)) = false := by simp; omega
    have QO := over_any R _ gs.length C (atI : Int) _ _ _ _ _ _ _ _ _ wI H1.out.1
    rw [ho] at QO
    go_wp2_with fail
    refine (QO).mono ?_
    rintro ew2 w2 ⟨rfl, hb⟩
    have H11 : Hid _ := up0 H1.out hb hS1
    have hS11 := Nat.le_trans hS1 hb.size
    clear hb QO ho
    have hlt1 : atI < gs.length := by omega
    obtain ⟨b9, o9, cap9, gg1, u9, e9, hg1, c0, c1, hEs, _⟩ := HG.out.1.at hlt1
    obtain ⟨Au, Cu, rfl⟩ := hEs.val
    simp only [Value.slice.injEq, Option.some.injEq, Addr.mk.injEq, and_true, true_and] at e9
    obtain ⟨⟨rfl, rfl⟩, rfl⟩ := e9
    obtain ⟨tag1, es1⟩ := gg1
    dsimp only at c0 c1 hEs
    have hE1 := HG.out.2.1 _ (List.mem_of_getElem? hg1)
    have c0 := (H11.out.2.2.1.cell (cell_lt c0)).trans c0
    have c1 := (H11.out.2.2.1.cell (cell_lt c1)).trans c1
    have QT := nextIs_any R b o gs.length C atI ⟨#[73, 88, 84]⟩ tag1 Au es1.length Cu _ _ _ _ _ _ _ _ _ w2 H11.out.1 hlt1 c0 c1
    clear c0 c1 hEs
    by_cases ht1 : tag1 = ⟨#[73, 88, 84]⟩
    · rw [tag_beq1 ht1] at QT
      go_wp2_with fail
      refine (QT).mono ?_
      rintro ew4 w4 ⟨rfl, hb⟩
      have H21 : Hid _ := up0 H11.out hb hS11
      clear hb QT
      have QX := endIx_any R b o C bs.length Cb nm Cm nd Cd Ab Am Ad atI num n k mn frm tt gs tag1 es1 w4 H21.out.1 (HG.out.1.below H21.out.2.2.1) hg1 hE1.2 (HG.out.2.2.1.below H21.out.2.2.1) HN.out.1 HN.out.2.1 HN.out.2.2.1 (by omega)
      have hbl9 : s.bs.length = bs.length := by rw [← HS1.out]; simp
      by_cases hb0 : bs.length = 0
      · have hb1 : s.bs = [] := List.eq_nil_of_length_eq_zero (by omega)
        simp only [hb0, if_true, ne_eq, not_true_eq_false, false_and, if_false] at QX
        go_wp2_with fail
        refine (QX).mono ?_
        rintro ew5 w5 ⟨hk, rfl, hx⟩
        have H31 : Hid (_ ∧ OwnBs N w5 (.slice Ab bs.length Cb) bs ∧ Below w0.heap.size w0 w5 ∧ N ≤ w5.heap.size) := ⟨hx, H21.out.2.1.keepR (sameR hk H21.out.1), H21.out.2.2.1.trans (hk.below HN.out.2.2.2.1 H21.out.2.2.1.size), Nat.le_trans H21.out.2.2.2 hk.size⟩
        clear hk hx QX
        have HF6 : Hid (3 = c ∧ atI = p) := HI.out.stop hg1 (st0_end0 ht1 hb1)
        go_wp2_with fail
        simp only [jumpsX]
        go_ret
        exact ⟨by first | (rw [← HF6.out.1]; rfl) | rw [← HF6.out.1], _, _, _, _, _, _, by rw [← HF6.out.2]; exact H31.out.1, fun h0 => absurd (HF6.out.1.trans h0) (by decide), H31.out.2.2⟩
      have hb1 : s.bs ≠ [] := fun e => by rw [e] at hbl9; exact hb0 (by simpa using hbl9.symm)
      obtain ⟨z, hz⟩ : ∃ z, z = endC num bs.length (tag1, es1) := ⟨_, rfl⟩
      rw [← hz] at QX
      have hz' : endC num s.bs.length (tag1, es1) = z := by rw [hbl9, hz]
      simp only [hb0, if_false, ne_eq, not_false_eq_true, true_and] at QX
      by_cases hz0 : z = 0
      · simp only [hz0, if_true] at QX
        go_wp2_with fail
        refine (QX).mono ?_
        rintro ew5 w5 ⟨hk, rfl, hx⟩
        have H31 : Hid (_ ∧ OwnBs N w5 (.slice Ab bs.length Cb) bs ∧ Below w0.heap.size w0 w5 ∧ N ≤ w5.heap.size) := ⟨hx, H21.out.2.1.keepR (sameR hk H21.out.1), H21.out.2.2.1.trans (hk.below HN.out.2.2.2.1 H21.out.2.2.1.size), Nat.le_trans H21.out.2.2.2 hk.size⟩
        clear hk hx QX
        have hI2 := HI.out.next hg1 (st0_end ht1 hb1 (hz'.trans hz0))
        go_wp2_with fail
        go_step3
        exact ⟨⟨⟨_, _, _, _, _, _, _, _, _, _, _, _, _, _, _, _, _, _, _, _, _, _, _, _, _, _, _, _, _, _, _, _, _, _, _, _, _, _, _, _, _, _, rfl⟩, (atI + 1), s, .inr (.inr (.inr ⟨rfl, hI2, ⟨Ab, Cb, Am, nm, Cm, Ad, nd, Cd, n, k, mn, bs, HS1.out, hbl1, H31.out.1, H31.out.2.1, H31.out.2.2.1, H31.out.2.2.2, by omega⟩⟩))⟩, by show gs.length + 1 - placeR R _ < gs.length + 1 - placeR R wI; rw [HM.out, placeR_of H31.out.1]; omega⟩
      simp only [hz0, if_false] at QX
      go_wp2_with fail
      refine (QX).mono ?_
      rintro ew5 w5 ⟨hk, rfl, hx⟩
      have H31 : Hid (_ ∧ OwnBs N w5 (.slice Ab bs.length Cb) bs ∧ Below w0.heap.size w0 w5 ∧ N ≤ w5.heap.size) := ⟨hx, H21.out.2.1.keepR (sameR hk H21.out.1), H21.out.2.2.1.trans (hk.below HN.out.2.2.2.1 H21.out.2.2.1.size), Nat.le_trans H21.out.2.2.2 hk.size⟩
      clear hk hx QX
      have g0 : (z != 0) = true := by simpa using hz0
      have hst := st0_endz (num := num) ht1 hb1 (fun e => hz0 (hz'.symm.trans e))
      rw [hz'] at hst
      clear hz hz'
      have HZ0 : Hid (¬ z = 0) := hz0
      clear hz0
      have HF7 : Hid (z = c ∧ atI = p) := HI.out.stop hg1 hst
      go_wp2_with fail
      simp only [jumpsX]
      go_ret
      exact ⟨by first | (rw [← HF7.out.1]; rfl) | rw [← HF7.out.1], _, _, _, _, _, _, by rw [← HF7.out.2]; exact H31.out.1, fun h0 => absurd (HF7.out.1.trans h0) HZ0.out, H31.out.2.2⟩
    rw [tag_beq ht1] at QT
    go_wp2_with fail
    refine (QT).mono ?_
    rintro ew4 w4 ⟨rfl, hb⟩
    have H21 : Hid _ := up0 H11.out hb hS11
    clear hb QT
    have QB := beginBundle_any R b o C bs.length Cb nm Cm Ab Am atI num n k mn frm tt (.slice Ad nd Cd) gs tag1 es1 w4 H21.out.1 (HG.out.1.below H21.out.2.2.1) hg1 hE1.2 (HG.out.2.2.2.below H21.out.2.2.1) HN.out.1
    go_wp2_with fail
    refine (QB).mono ?_
    rintro ew5 w5 ⟨hk, hx⟩
    have hbl9 : s.bs.length = bs.length := by rw [← HS1.out]; simp
    clear QB
    rcases hx with ⟨k', n', q1, q2, q3, rfl, hx⟩ | ⟨q1, rfl, hx⟩
    rotate_left
    · have H31 : Hid (_ ∧ OwnBs N w5 (.slice Ab bs.length Cb) bs ∧ Below w0.heap.size w0 w5 ∧ N ≤ w5.heap.size) := ⟨hx, H21.out.2.1.keepR (sameR hk H21.out.1), H21.out.2.2.1.trans (hk.below HN.out.2.2.2.1 H21.out.2.2.1.size), Nat.le_trans H21.out.2.2.2 hk.size⟩
      clear hk hx
      have HF8 : Hid (3 = c ∧ atI = p) := HI.out.stop hg1 (st0_no ht1 (by rw [hbl9]; exact q1))
      go_wp2_with fail
      simp only [jumpsX]
      go_ret
      exact ⟨by first | (rw [← HF8.out.1]; rfl) | rw [← HF8.out.1], _, _, _, _, _, _, by rw [← HF8.out.2]; exact H31.out.1, fun h0 => absurd (HF8.out.1.trans h0) (by decide), H31.out.2.2⟩
    have hI2 := HI.out.next hg1 (st0_begin q1 (by rw [hbl9]; exact q2) q3)
    have hbd := hdGR_bd q3
    have hS : RS1 R N b o C num frm tt w0 gs w5 (atI + 1) { s with k := k', n := n', ms := [] } := ⟨Ab, Cb, none, 0, Ad, nd, Cd, mn, bs, [], HS1.out, rfl, ⟨by omega, by simp, by dsimp only; omega, by dsimp only; omega⟩, hx, Rd1.nil (H21.out.2.1.keepR (sameR hk H21.out.1)), H21.out.2.2.1.trans (hk.below HN.out.2.2.2.1 H21.out.2.2.1.size), Nat.le_trans H21.out.2.2.2 hk.size, by omega⟩
    clear hk hx q1 q2 q3 hbd
    obtain ⟨at9, ha2⟩ : ∃ q, q = atI + 1 := ⟨_, rfl⟩
    rw [← ha2] at hI2 hS
    obtain ⟨s10, hs2⟩ : ∃ q, q = ({ s with k := k', n := n', ms := [] } : RdS) := ⟨_, rfl⟩
    rw [← hs2] at hI2 hS
    have HI11 : Hid _ := hI2
    have hge : atI ≤ at9 := by omega
    clear hs2 hI2 H1 H11 H21 HS1
    go_wp2_with fail
    go_step3
    obtain ⟨Ab, Cb, Am, Cm, Ad, nd, Cd, mn, bs, ms, hbs12, hms12, ⟨hbl12, hml12, hn012, hn112⟩, hX, hO, hB, hN, hat12⟩ := hS
    have HS12 : Hid (bs.map (·.1) = s10.bs ∧ ms.map (·.1) = s10.ms) := ⟨hbs12, hms12⟩
    have H12 : Hid _ := And.intro hX (And.intro hO (And.intro hB hN))
    have hS12 := hB.size
    clear hX hO hB hN hbs12 hms12
    by_cases hend13 : gs.length ≤ at9
    · have ho : ((at9 : Int) == (gs.length : Int)) = true := by simp; omega
      have QO := over_any R _ gs.length C (at9 : Int) _ _ _ _ _ _ _ _ _ w5 H12.out.1
      rw [ho] at QO
      go_wp2_with fail
      refine (QO).mono ?_
      rintro ew13 w13 ⟨rfl, hb⟩
      have HH13 : Hid _ := up1 H12.out hb hS12
      clear hb QO ho
      have HF14 : Hid (4 = c ∧ at9 = p) := by have := HI11.out.fin hend13; simp at this; exact ⟨this.1.symm, this.2.1⟩
      go_wp2_with fail
      simp only [jumpsX]
      go_ret
      exact ⟨by rw [← HF14.out.1]; rfl, _, _, _, _, _, _, by rw [← HF14.out.2]; exact HH13.out.1, fun h0 => absurd (HF14.out.1.trans h0) (by decide), HH13.out.2.2⟩
    have ho : ((at9 : Int) == (gs.length : Int)) = false := by simp; omega
    have QO := over_any R _ gs.length C (at9 : Int) _ _ _ _ _ _ _ _ _ w5 H12.out.1
    rw [ho] at QO
    go_wp2_with fail
    refine (QO).mono ?_
    rintro ew13 w13 ⟨rfl, hb⟩
    have H112 : Hid _ := up1 H12.out hb hS12
    have hS112 := Nat.le_trans hS12 hb.size
    clear hb QO ho
    have hlt12 : at9 < gs.length := by omega
    obtain ⟨b9, o9, cap9, gg12, u9, e9, hg12, c0, c1, hEs, _⟩ := HG.out.1.at hlt12
    obtain ⟨Au, Cu, rfl⟩ := hEs.val
    simp only [Value.slice.injEq, Option.some.injEq, Addr.mk.injEq, and_true, true_and] at e9
    obtain ⟨⟨rfl, rfl⟩, rfl⟩ := e9
    obtain ⟨tag12, es12⟩ := gg12
    dsimp only at c0 c1 hEs
    have hE12 := HG.out.2.1 _ (List.mem_of_getElem? hg12)
    have c0 := (H112.out.2.2.1.cell (cell_lt c0)).trans c0
    have c1 := (H112.out.2.2.1.cell (cell_lt c1)).trans c1
    have QT := nextIs_any R b o gs.length C at9 ⟨#[71, 82, 84]⟩ tag12 Au es12.length Cu _ _ _ _ _ _ _ _ _ w13 H112.out.1 hlt12 c0 c1
    clear c0 c1 hEs
    by_cases ht12 : tag12 = ⟨#[71, 82, 84]⟩
    · rw [tag_beq1 ht12] at QT
      go_wp2_with fail
      refine (QT).mono ?_
      rintro ew15 w15 ⟨rfl, hb⟩
      have H212 : Hid _ := up1 H112.out hb hS112
      clear hb QT
      have QX := endBundle_any N R b o C Cm Cb Am Ab at9 num s10.n s10.k mn frm tt (.slice Ad nd Cd) bs ms gs tag12 es12 w0 w15 H212.out.1 HG.out.1 hg12 hE12.2 HG.out.2.2.1 HN.out.1 hn012 hn112 (by omega) (by omega) H212.out.2.2.1 HN.out.2.2.2.1 HN.out.2.2.2.2 H212.out.2.2.2 H212.out.2.1
      have hml9 : s10.ms.length = ms.length := by rw [← HS12.out.2]; simp
      by_cases hm0 : ms = []
      · have hm1 : s10.ms = [] := by rw [← HS12.out.2, hm0]; rfl
        rw [if_pos hm0] at QX
        go_wp2_with fail
        refine (QX).mono ?_
        rintro ew16 w16 ⟨hb, hn, rfl, hx⟩
        rcases hx with ⟨_, hx, hr⟩ | ⟨hx, _⟩
        rotate_left
        · exact absurd hm0 hx
        have H312 : Hid _ := And.intro hx (And.intro hr (And.intro hb hn))
        clear hx hr hb hn QX
        have HF17 : Hid (3 = c ∧ at9 = p) := HI11.out.stop hg12 (st1_end0 ht12 hm1)
        go_wp2_with fail
        simp only [jumpsX]
        go_ret
        exact ⟨by first | (rw [← HF17.out.1]; rfl) | rw [← HF17.out.1], _, _, _, _, _, _, by rw [← HF17.out.2]; exact H312.out.1, fun h0 => absurd (HF17.out.1.trans h0) (by decide), H312.out.2.2⟩
      have hm1 : s10.ms ≠ [] := fun e => by rw [e] at hml9; exact hm0 (List.eq_nil_of_length_eq_zero (by simpa using hml9.symm))
      obtain ⟨z, hz⟩ : ∃ z, z = endC s10.n ms.length (tag12, es12) := ⟨_, rfl⟩
      rw [if_neg hm0, ← hz] at QX
      have hz' : endC s10.n s10.ms.length (tag12, es12) = z := by rw [hml9, hz]
      by_cases hz0 : z = 0
      · rw [hz0] at QX
        go_wp2_with fail
        refine (QX).mono ?_
        rintro ew16 w16 ⟨hb, hn, rfl, hx⟩
        rcases hx with ⟨hx | hx, _⟩ | ⟨_, _, gA, gC, hx, hr⟩
        · exact absurd hx hm0
        · exact absurd rfl hx
        have H312 : Hid _ := And.intro hx (And.intro hr (And.intro hb hn))
        clear hx hr hb hn QX
        have hI2 := HI11.out.next hg12 (st1_end ht12 hm1 (hz'.trans hz0))
        go_wp2_with fail
        go_step3
        exact ⟨⟨⟨_, _, _, _, _, _, _, _, _, _, _, _, _, _, _, _, _, _, _, _, _, _, _, _, _, _, _, _, _, _, _, _, _, _, _, _, _, _, _, _, _, _, rfl⟩, (at9 + 1), { s10 with bs := s10.bs ++ [⟨s10.k, s10.n, s10.ms⟩] }, .inl ⟨rfl, hI2, ⟨_, gC, Am, ms.length, Cm, Ad, nd, Cd, s10.n, s10.k, mn, bs ++ [(⟨s10.k, s10.n, ms.map (·.1)⟩, .slice Am ms.length Cm, ms)], by rw [List.map_append, HS12.out.1, HS12.out.2]; rfl, by simp; omega, by simpa using H312.out.1, by simpa using H312.out.2.1, H312.out.2.2.1, H312.out.2.2.2, by omega⟩⟩⟩, by show gs.length + 1 - placeR R _ < gs.length + 1 - placeR R wI; rw [HM.out, placeR_of H312.out.1]; omega⟩
      go_wp2_with fail
      refine (QX).mono ?_
      rintro ew16 w16 ⟨hb, hn, rfl, hx⟩
      rcases hx with ⟨_, hx, hr⟩ | ⟨_, hx, _⟩
      rotate_left
      · exact absurd hx hz0
      have H312 : Hid _ := And.intro hx (And.intro hr (And.intro hb hn))
      clear hx hr hb hn QX
      have g0 : (z != 0) = true := by simpa using hz0
      have hst := st1_endz (num := num) ht12 hm1 (fun e => hz0 (hz'.symm.trans e))
      rw [hz'] at hst
      clear hz hz'
      have HZ0 : Hid (¬ z = 0) := hz0
      clear hz0
      have HF18 : Hid (z = c ∧ at9 = p) := HI11.out.stop hg12 hst
      go_wp2_with fail
      simp only [jumpsX]
      go_ret
      exact ⟨by first | (rw [← HF18.out.1]; rfl) | rw [← HF18.out.1], _, _, _, _, _, _, by rw [← HF18.out.2]; exact H312.out.1, fun h0 => absurd (HF18.out.1.trans h0) HZ0.out, H312.out.2.2⟩
    rw [tag_beq ht12] at QT
    go_wp2_with fail
    refine (QT).mono ?_
    rintro ew15 w15 ⟨rfl, hb⟩
    have H212 : Hid _ := up1 H112.out hb hS112
    clear hb QT
    have QB := beginMessage_any R b o C ms.length Cm nd Cd Am Ad at9 num s10.n s10.k mn frm tt (.slice Ab bs.length Cb) gs tag12 es12 w15 H212.out.1 (HG.out.1.below H212.out.2.2.1) hg12 hE12.2 (HG.out.2.2.2.below H212.out.2.2.1) HN.out.1
    go_wp2_with fail
    refine (QB).mono ?_
    rintro ew16 w16 ⟨hk, hx⟩
    have hml9 : s10.ms.length = ms.length := by rw [← HS12.out.2]; simp
    clear QB
    rcases hx with ⟨n', q1, q2, q3, rfl, hx⟩ | ⟨q1, rfl, hx⟩
    rotate_left
    · have H312 : Hid (_ ∧ Rd1 N w16 (.slice Ab bs.length Cb) bs (.slice Am ms.length Cm) ms ∧ Below w0.heap.size w0 w16 ∧ N ≤ w16.heap.size) := ⟨hx, H212.out.2.1.keepR (sameR hk H212.out.1), H212.out.2.2.1.trans (hk.below HN.out.2.2.2.1 H212.out.2.2.1.size), Nat.le_trans H212.out.2.2.2 hk.size⟩
      clear hk hx
      have HF19 : Hid (3 = c ∧ at9 = p) := HI11.out.stop hg12 (st1_no ht12 (by rw [hml9]; exact q1))
      go_wp2_with fail
      simp only [jumpsX]
      go_ret
      exact ⟨by first | (rw [← HF19.out.1]; rfl) | rw [← HF19.out.1], _, _, _, _, _, _, by rw [← HF19.out.2]; exact H312.out.1, fun h0 => absurd (HF19.out.1.trans h0) (by decide), H312.out.2.2⟩
    have hI2 := HI11.out.next hg12 (st1_begin q1 (by rw [hml9]; exact q2) q3)
    have hbd := hdMS_bd q3
    have hS : RS2 R N b o C num frm tt w0 gs w16 (at9 + 1) { s10 with mn := n', bd := [] } := ⟨Ab, Cb, Am, Cm, none, 0, bs, ms, [], HS12.out.1, HS12.out.2, ⟨hbl12, by omega, by simp, hn012, hn112, by dsimp only; omega, by dsimp only; omega⟩, hx, Rd2.nil (H212.out.2.1.keepR (sameR hk H212.out.1)), H212.out.2.2.1.trans (hk.below HN.out.2.2.2.1 H212.out.2.2.1.size), Nat.le_trans H212.out.2.2.2 hk.size, by omega⟩
    clear hk hx q1 q2 q3 hbd
    obtain ⟨at20, ha2⟩ : ∃ q, q = at9 + 1 := ⟨_, rfl⟩
    rw [← ha2] at hI2 hS
    obtain ⟨s21, hs2⟩ : ∃ q, q = ({ s10 with mn := n', bd := [] } : RdS) := ⟨_, rfl⟩
    rw [← hs2] at hI2 hS
    have HI22 : Hid _ := hI2
    have hge : atI ≤ at20 := by omega
    clear hs2 hI2 H12 H112 H212 HS12
    go_wp2_with fail
    go_step3
    obtain ⟨Ab, Cb, Am, Cm, Ad, Cd, bs, ms, ps, hbs23, hms23, ⟨hbl23, hml23, hdl23, hn023, hn123, hm023, hm123⟩, hX, hO, hB, hN, hat23⟩ := hS
    have HS23 : Hid (bs.map (·.1) = s21.bs ∧ ms.map (·.1) = s21.ms) := ⟨hbs23, hms23⟩
    have H23 : Hid _ := And.intro hX (And.intro hO (And.intro hB hN))
    have hS23 := hB.size
    clear hX hO hB hN hbs23 hms23
    by_cases hend24 : gs.length ≤ at20
    · have ho : ((at20 : Int) == (gs.length : Int)) = true := by simp; omega
      have QO := over_any R _ gs.length C (at20 : Int) _ _ _ _ _ _ _ _ _ w16 H23.out.1
      rw [ho] at QO
      go_wp2_with fail
      refine (QO).mono ?_
      rintro ew24 w24 ⟨rfl, hb⟩
      have HH24 : Hid _ := up2 H23.out hb hS23
      clear hb QO ho
      have HF25 : Hid (4 = c ∧ at20 = p) := by have := HI22.out.fin hend24; simp at this; exact ⟨this.1.symm, this.2.1⟩
      go_wp2_with fail
      simp only [jumpsX]
      go_ret
      exact ⟨by rw [← HF25.out.1]; rfl, _, _, _, _, _, _, by rw [← HF25.out.2]; exact HH24.out.1, fun h0 => absurd (HF25.out.1.trans h0) (by decide), HH24.out.2.2⟩
    have ho : ((at20 : Int) == (gs.length : Int)) = false := by simp; omega
    have QO := over_any R _ gs.length C (at20 : Int) _ _ _ _ _ _ _ _ _ w16 H23.out.1
    rw [ho] at QO
    go_wp2_with fail
    refine (QO).mono ?_
    rintro ew24 w24 ⟨rfl, hb⟩
    have H123 : Hid _ := up2 H23.out hb hS23
    have hS123 := Nat.le_trans hS23 hb.size
    clear hb QO ho
    have hlt23 : at20 < gs.length := by omega
    obtain ⟨b9, o9, cap9, gg23, u9, e9, hg23, c0, c1, hEs, _⟩ := HG.out.1.at hlt23
    obtain ⟨Au, Cu, rfl⟩ := hEs.val
    simp only [Value.slice.injEq, Option.some.injEq, Addr.mk.injEq, and_true, true_and] at e9
    obtain ⟨⟨rfl, rfl⟩, rfl⟩ := e9
    obtain ⟨tag23, es23⟩ := gg23
    dsimp only at c0 c1 hEs
    have hE23 := HG.out.2.1 _ (List.mem_of_getElem? hg23)
    have c0 := (H123.out.2.2.1.cell (cell_lt c0)).trans c0
    have c1 := (H123.out.2.2.1.cell (cell_lt c1)).trans c1
    have QT := nextIs_any R b o gs.length C at20 ⟨#[77, 83, 84]⟩ tag23 Au es23.length Cu _ _ _ _ _ _ _ _ _ w24 H123.out.1 hlt23 c0 c1
    clear c0 c1 hEs
    by_cases ht23 : tag23 = ⟨#[77, 83, 84]⟩
    · rw [tag_beq1 ht23] at QT
      go_wp2_with fail
      refine (QT).mono ?_
      rintro ew26 w26 ⟨rfl, hb⟩
      have H223 : Hid _ := up2 H123.out hb hS123
      clear hb QT
      have QX := endMessage_any N R b o C Cm Cd Am Ad at20 num s21.n s21.k s21.mn frm tt (.slice Ab bs.length Cb) bs ms ps s21.bd gs tag23 es23 w0 w26 H223.out.1 HG.out.1 hg23 hE23.2 HG.out.2.2.1 HN.out.1 hm023 hm123 (by omega) (by omega) H223.out.2.2.1 HN.out.2.2.2.1 HN.out.2.2.2.2 H223.out.2.2.2 H223.out.2.1
      obtain ⟨z, hz⟩ : ∃ z, z = endC s21.mn s21.bd.length (tag23, es23) := ⟨_, rfl⟩
      rw [← hz] at QX
      by_cases hz0 : z = 0
      · rw [hz0] at QX
        go_wp2_with fail
        refine (QX).mono ?_
        rintro ew27 w27 ⟨hb, hn, rfl, hx⟩
        rcases hx with ⟨hx, _⟩ | ⟨_, gA, gC, hx, hr⟩
        · exact absurd rfl hx
        have H323 : Hid _ := And.intro hx (And.intro hr (And.intro hb hn))
        clear hx hr hb hn QX
        have hI2 := HI22.out.next hg23 (st2_end ht23 (hz.symm.trans hz0))
        go_wp2_with fail
        go_step3
        exact ⟨⟨⟨_, _, _, _, _, _, _, _, _, _, _, _, _, _, _, _, _, _, _, _, _, _, _, _, _, _, _, _, _, _, _, _, _, _, _, _, _, _, _, _, _, _, rfl⟩, (at20 + 1), { s21 with ms := s21.ms ++ [⟨s21.mn, s21.bd⟩] }, .inr (.inl ⟨rfl, hI2, ⟨Ab, Cb, some ⟨gA, 0, none⟩, gC, Ad, s21.bd.length, Cd, s21.mn, bs, ms ++ [(⟨s21.mn, s21.bd⟩, .slice Ad s21.bd.length Cd, ps)], HS23.out.1, by rw [List.map_append, HS23.out.2]; rfl, ⟨hbl23, by simp; omega, hn023, hn123⟩, by simpa using H323.out.1, by simpa using H323.out.2.1, H323.out.2.2.1, H323.out.2.2.2, by omega⟩⟩)⟩, by show gs.length + 1 - placeR R _ < gs.length + 1 - placeR R wI; rw [HM.out, placeR_of H323.out.1]; omega⟩
      go_wp2_with fail
      refine (QX).mono ?_
      rintro ew27 w27 ⟨hb, hn, rfl, hx⟩
      rcases hx with ⟨_, hx, hr⟩ | ⟨hx, _⟩
      rotate_left
      · exact absurd hx hz0
      have H323 : Hid _ := And.intro hx (And.intro hr (And.intro hb hn))
      clear hx hr hb hn QX
      have g0 : (z != 0) = true := by simpa using hz0
      have hst := st2_endz (num := num) (s := s21) ht23 (fun e => hz0 (hz.trans e))
      rw [← hz] at hst
      clear hz
      have HZ0 : Hid (¬ z = 0) := hz0
      clear hz0
      have HF28 : Hid (z = c ∧ at20 = p) := HI22.out.stop hg23 hst
      go_wp2_with fail
      simp only [jumpsX]
      go_ret
      exact ⟨by first | (rw [← HF28.out.1]; rfl) | rw [← HF28.out.1], _, _, _, _, _, _, by rw [← HF28.out.2]; exact H323.out.1, fun h0 => absurd (HF28.out.1.trans h0) HZ0.out, H323.out.2.2⟩
    rw [tag_beq ht23] at QT
    go_wp2_with fail
    refine (QT).mono ?_
    rintro ew26 w26 ⟨rfl, hb⟩
    have H223 : Hid _ := up2 H123.out hb hS123
    clear hb QT
    have QB := takeSegment_any N R b o C Cd Ad at20 num s21.n s21.k s21.mn frm tt (.slice Ab bs.length Cb) (.slice Am ms.length Cm) bs ms ps s21.bd gs tag23 es23 w0 w26 H223.out.1 HG.out.1 hg23 hE23.2 hE23.1 HN.out.1 (by omega) H223.out.2.2.1 HN.out.2.2.2.1 HN.out.2.2.2.2 H223.out.2.2.2 H223.out.2.1
    go_wp2_with fail
    refine (QB).mono ?_
    rintro ew27 w27 ⟨hb, hn, hx⟩
    clear QB
    rcases hx with ⟨q1, q2, rfl, gA, gC, u, vals, hx, hr⟩ | ⟨q1, rfl, hx, hr⟩
    rotate_left
    · have H323 : Hid _ := And.intro hx (And.intro hr (And.intro hb hn))
      clear hx hr hb hn
      have HF29 : Hid (3 = c ∧ at20 = p) := HI22.out.stop hg23 (st2_no ht23 q1)
      go_wp2_with fail
      simp only [jumpsX]
      go_ret
      exact ⟨by first | (rw [← HF29.out.1]; rfl) | rw [← HF29.out.1], _, _, _, _, _, _, by rw [← HF29.out.2]; exact H323.out.1, fun h0 => absurd (HF29.out.1.trans h0) (by decide), H323.out.2.2⟩
    have H323 : Hid _ := And.intro hx (And.intro hr (And.intro hb hn))
    clear hx hr hb hn
    have hI2 := HI22.out.next hg23 (st2_seg ht23 q1 q2)
    go_wp2_with fail
    go_step3
    exact ⟨⟨⟨_, _, _, _, _, _, _, _, _, _, _, _, _, _, _, _, _, _, _, _, _, _, _, _, _, _, _, _, _, _, _, _, _, _, _, _, _, _, _, _, _, _, rfl⟩, (at20 + 1), { s21 with bd := s21.bd ++ [(tag23, es23)] }, .inr (.inr (.inl ⟨rfl, hI2, ⟨Ab, Cb, Am, Cm, some ⟨gA, 0, none⟩, gC, bs, ms, ps ++ [(u, vals)], HS23.out.1, HS23.out.2, ⟨hbl23, hml23, by simp; omega, hn023, hn123, hm023, hm123⟩, by simpa using H323.out.1, by simpa using H323.out.2.1, H323.out.2.2.1, H323.out.2.2.2, by omega⟩⟩))⟩, by show gs.length + 1 - placeR R _ < gs.length + 1 - placeR R wI; rw [HM.out, placeR_of H323.out.1]; omega⟩
  · refine ⟨_, rfl, ?_⟩
    have HI : Hid _ := hI
    clear hI
    have hge : atI ≤ atI := Nat.le_refl _
    have HM : Hid (placeR R wI = atI) := by obtain ⟨_, _, _, _, _, _, _, _, _, _, _, _, _, hx, _⟩ := hS; exact placeR_of hx
    obtain ⟨Ab, Cb, Am, Cm, Ad, nd, Cd, mn, bs, ms, hbs30, hms30, ⟨hbl30, hml30, hn030, hn130⟩, hX, hO, hB, hN, hat30⟩ := hS
    have HS30 : Hid (bs.map (·.1) = s.bs ∧ ms.map (·.1) = s.ms) := ⟨hbs30, hms30⟩
    have H30 : Hid _ := And.intro hX (And.intro hO (And.intro hB hN))
    have hS30 := hB.size
    clear hX hO hB hN hbs30 hms30
    by_cases hend31 : gs.length ≤ atI
    · have ho : ((atI : Int) == (gs.length : Int)) = true := by simp; omega
      have QO := over_any R _ gs.length C (atI : Int) _ _ _ _ _ _ _ _ _ wI H30.out.1
      rw [ho] at QO
      go_wp2_with fail
      refine (QO).mono ?_
      rintro ew31 w31 ⟨rfl, hb⟩
      have HH31 : Hid _ := up1 H30.out hb hS30
      clear hb QO ho
      have HF32 : Hid (4 = c ∧ atI = p) := by have := HI.out.fin hend31; simp at this; exact ⟨this.1.symm, this.2.1⟩
      go_wp2_with fail
      simp only [jumpsX]
      go_ret
      exact ⟨by rw [← HF32.out.1]; rfl, _, _, _, _, _, _, by rw [← HF32.out.2]; exact HH31.out.1, fun h0 => absurd (HF32.out.1.trans h0) (by decide), HH31.out.2.2⟩
    have ho : ((atI : Int) == (gs.length : Int)) = false := by simp; omega
    have QO := over_any R _ gs.length C (atI : Int) _ _ _ _ _ _ _ _ _ wI H30.out.1
    rw [ho] at QO
    go_wp2_with fail
    refine (QO).mono ?_
    rintro ew31 w31 ⟨rfl, hb⟩
    have H130 : Hid _ := up1 H30.out hb hS30
    have hS130 := Nat.le_trans hS30 hb.size
    clear hb QO ho
    have hlt30 : atI < gs.length := by omega
    obtain ⟨b9, o9, cap9, gg30, u9, e9, hg30, c0, c1, hEs, _⟩ := HG.out.1.at hlt30
    obtain ⟨Au, Cu, rfl⟩ := hEs.val
    simp only [Value.slice.injEq, Option.some.injEq, Addr.mk.injEq, and_true, true_and] at e9
    obtain ⟨⟨rfl, rfl⟩, rfl⟩ := e9
    obtain ⟨tag30, es30⟩ := gg30
    dsimp only at c0 c1 hEs
    have hE30 := HG.out.2.1 _ (List.mem_of_getElem? hg30)
    have c0 := (H130.out.2.2.1.cell (cell_lt c0)).trans c0
    have c1 := (H130.out.2.2.1.cell (cell_lt c1)).trans c1
    have QT := nextIs_any R b o gs.length C atI ⟨#[71, 82, 84]⟩ tag30 Au es30.length Cu _ _ _ _ _ _ _ _ _ w31 H130.out.1 hlt30 c0 c1
    clear c0 c1 hEs
    by_cases ht30 : tag30 = ⟨#[71, 82, 84]⟩
    · rw [tag_beq1 ht30] at QT
      go_wp2_with fail
      refine (QT).mono ?_
      rintro ew33 w33 ⟨rfl, hb⟩
      have H230 : Hid _ := up1 H130.out hb hS130
      clear hb QT
      have QX := endBundle_any N R b o C Cm Cb Am Ab atI num s.n s.k mn frm tt (.slice Ad nd Cd) bs ms gs tag30 es30 w0 w33 H230.out.1 HG.out.1 hg30 hE30.2 HG.out.2.2.1 HN.out.1 hn030 hn130 (by omega) (by omega) H230.out.2.2.1 HN.out.2.2.2.1 HN.out.2.2.2.2 H230.out.2.2.2 H230.out.2.1
      have hml9 : s.ms.length = ms.length := by rw [← HS30.out.2]; simp
      by_cases hm0 : ms = []
      · have hm1 : s.ms = [] := by rw [← HS30.out.2, hm0]; rfl
        rw [if_pos hm0] at QX
        go_wp2_with fail
        refine (QX).mono ?_
        rintro ew34 w34 ⟨hb, hn, rfl, hx⟩
        rcases hx with ⟨_, hx, hr⟩ | ⟨hx, _⟩
        rotate_left
        · exact absurd hm0 hx
        have H330 : Hid _ := And.intro hx (And.intro hr (And.intro hb hn))
        clear hx hr hb hn QX
        have HF35 : Hid (3 = c ∧ atI = p) := HI.out.stop hg30 (st1_end0 ht30 hm1)
        go_wp2_with fail
        simp only [jumpsX]
        go_ret
        exact ⟨by first | (rw [← HF35.out.1]; rfl) | rw [← HF35.out.1], _, _, _, _, _, _, by rw [← HF35.out.2]; exact H330.out.1, fun h0 => absurd (HF35.out.1.trans h0) (by decide), H330.out.2.2⟩
      have hm1 : s.ms ≠ [] := fun e => by rw [e] at hml9; exact hm0 (List.eq_nil_of_length_eq_zero (by simpa using hml9.symm))
      obtain ⟨z, hz⟩ : ∃ z, z = endC s.n ms.length (tag30, es30) := ⟨_, rfl⟩
      rw [if_neg hm0, ← hz] at QX
      have hz' : endC s.n s.ms.length (tag30, es30) = z := by rw [hml9, hz]
      by_cases hz0 : z = 0
      · rw [hz0] at QX
        go_wp2_with fail
        refine (QX).mono ?_
        rintro ew34 w34 ⟨hb, hn, rfl, hx⟩
        rcases hx with ⟨hx | hx, _⟩ | ⟨_, _, gA, gC, hx, hr⟩
        · exact absurd hx hm0
        · exact absurd rfl hx
        have H330 : Hid _ := And.intro hx (And.intro hr (And.intro hb hn))
        clear hx hr hb hn QX
        have hI2 := HI.out.next hg30 (st1_end ht30 hm1 (hz'.trans hz0))
        go_wp2_with fail
        go_step3
        exact ⟨⟨⟨_, _, _, _, _, _, _, _, _, _, _, _, _, _, _, _, _, _, _, _, _, _, _, _, _, _, _, _, _, _, _, _, _, _, _, _, _, _, _, _, _, _, rfl⟩, (atI + 1), { s with bs := s.bs ++ [⟨s.k, s.n, s.ms⟩] }, .inl ⟨rfl, hI2, ⟨_, gC, Am, ms.length, Cm, Ad, nd, Cd, s.n, s.k, mn, bs ++ [(⟨s.k, s.n, ms.map (·.1)⟩, .slice Am ms.length Cm, ms)], by rw [List.map_append, HS30.out.1, HS30.out.2]; rfl, by simp; omega, by simpa using H330.out.1, by simpa using H330.out.2.1, H330.out.2.2.1, H330.out.2.2.2, by omega⟩⟩⟩, by show gs.length + 1 - placeR R _ < gs.length + 1 - placeR R wI; rw [HM.out, placeR_of H330.out.1]; omega⟩
      go_wp2_with fail
      refine (QX).mono ?_
      rintro ew34 w34 ⟨hb, hn, rfl, hx⟩
      rcases hx with ⟨_, hx, hr⟩ | ⟨_, hx, _⟩
      rotate_left
      · exact absurd hx hz0
      have H330 : Hid _ := And.intro hx (And.intro hr (And.intro hb hn))
      clear hx hr hb hn QX
      have g0 : (z != 0) = true := by simpa using hz0
      have hst := st1_endz (num := num) ht30 hm1 (fun e => hz0 (hz'.symm.trans e))
      rw [hz'] at hst
      clear hz hz'
      have HZ0 : Hid (¬ z = 0) := hz0
      clear hz0
      have HF36 : Hid (z = c ∧ atI = p) := HI.out.stop hg30 hst
      go_wp2_with fail
      simp only [jumpsX]
      go_ret
      exact ⟨by first | (rw [← HF36.out.1]; rfl) | rw [← HF36.out.1], _, _, _, _, _, _, by rw [← HF36.out.2]; exact H330.out.1, fun h0 => absurd (HF36.out.1.trans h0) HZ0.out, H330.out.2.2⟩
    rw [tag_beq ht30] at QT
    go_wp2_with fail
    refine (QT).mono ?_
    rintro ew33 w33 ⟨rfl, hb⟩
    have H230 : Hid _ := up1 H130.out hb hS130
    clear hb QT
    have QB := beginMessage_any R b o C ms.length Cm nd Cd Am Ad atI num s.n s.k mn frm tt (.slice Ab bs.length Cb) gs tag30 es30 w33 H230.out.1 (HG.out.1.below H230.out.2.2.1) hg30 hE30.2 (HG.out.2.2.2.below H230.out.2.2.1) HN.out.1
    go_wp2_with fail
    refine (QB).mono ?_
    rintro ew34 w34 ⟨hk, hx⟩
    have hml9 : s.ms.length = ms.length := by rw [← HS30.out.2]; simp
    clear QB
    rcases hx with ⟨n', q1, q2, q3, rfl, hx⟩ | ⟨q1, rfl, hx⟩
    rotate_left
    · have H330 : Hid (_ ∧ Rd1 N w34 (.slice Ab bs.length Cb) bs (.slice Am ms.length Cm) ms ∧ Below w0.heap.size w0 w34 ∧ N ≤ w34.heap.size) := ⟨hx, H230.out.2.1.keepR (sameR hk H230.out.1), H230.out.2.2.1.trans (hk.below HN.out.2.2.2.1 H230.out.2.2.1.size), Nat.le_trans H230.out.2.2.2 hk.size⟩
      clear hk hx
      have HF37 : Hid (3 = c ∧ atI = p) := HI.out.stop hg30 (st1_no ht30 (by rw [hml9]; exact q1))
      go_wp2_with fail
      simp only [jumpsX]
      go_ret
      exact ⟨by first | (rw [← HF37.out.1]; rfl) | rw [← HF37.out.1], _, _, _, _, _, _, by rw [← HF37.out.2]; exact H330.out.1, fun h0 => absurd (HF37.out.1.trans h0) (by decide), H330.out.2.2⟩
    have hI2 := HI.out.next hg30 (st1_begin q1 (by rw [hml9]; exact q2) q3)
    have hbd := hdMS_bd q3
    have hS : RS2 R N b o C num frm tt w0 gs w34 (atI + 1) { s with mn := n', bd := [] } := ⟨Ab, Cb, Am, Cm, none, 0, bs, ms, [], HS30.out.1, HS30.out.2, ⟨hbl30, by omega, by simp, hn030, hn130, by dsimp only; omega, by dsimp only; omega⟩, hx, Rd2.nil (H230.out.2.1.keepR (sameR hk H230.out.1)), H230.out.2.2.1.trans (hk.below HN.out.2.2.2.1 H230.out.2.2.1.size), Nat.le_trans H230.out.2.2.2 hk.size, by omega⟩
    clear hk hx q1 q2 q3 hbd
    obtain ⟨at38, ha2⟩ : ∃ q, q = atI + 1 := ⟨_, rfl⟩
    rw [← ha2] at hI2 hS
    obtain ⟨s39, hs2⟩ : ∃ q, q = ({ s with mn := n', bd := [] } : RdS) := ⟨_, rfl⟩
    rw [← hs2] at hI2 hS
    have HI40 : Hid _ := hI2
    have hge : atI ≤ at38 := by omega
    clear hs2 hI2 H30 H130 H230 HS30
    go_wp2_with fail
    go_step3
    obtain ⟨Ab, Cb, Am, Cm, Ad, Cd, bs, ms, ps, hbs41, hms41, ⟨hbl41, hml41, hdl41, hn041, hn141, hm041, hm141⟩, hX, hO, hB, hN, hat41⟩ := hS
    have HS41 : Hid (bs.map (·.1) = s39.bs ∧ ms.map (·.1) = s39.ms) := ⟨hbs41, hms41⟩
    have H41 : Hid _ := And.intro hX (And.intro hO (And.intro hB hN))
    have hS41 := hB.size
    clear hX hO hB hN hbs41 hms41
    by_cases hend42 : gs.length ≤ at38
    · have ho : ((at38 : Int) == (gs.length : Int)) = true := by simp; omega
      have QO := over_any R _ gs.length C (at38 : Int) _ _ _ _ _ _ _ _ _ w34 H41.out.1
      rw [ho] at QO
      go_wp2_with fail
      refine (QO).mono ?_
      rintro ew42 w42 ⟨rfl, hb⟩
      have HH42 : Hid _ := up2 H41.out hb hS41
      clear hb QO ho
      have HF43 : Hid (4 = c ∧ at38 = p) := by have := HI40.out.fin hend42; simp at this; exact ⟨this.1.symm, this.2.1⟩
      go_wp2_with fail
      simp only [jumpsX]
      go_ret
      exact ⟨by rw [← HF43.out.1]; rfl, _, _, _, _, _, _, by rw [← HF43.out.2]; exact HH42.out.1, fun h0 => absurd (HF43.out.1.trans h0) (by decide), HH42.out.2.2⟩
    have ho : ((at38 : Int) == (gs.length : Int)) = false := by simp; omega
    have QO := over_any R _ gs.length C (at38 : Int) _ _ _ _ _ _ _ _ _ w34 H41.out.1
    rw [ho] at QO
    go_wp2_with fail
    refine (QO).mono ?_
    rintro ew42 w42 ⟨rfl, hb⟩
    have H141 : Hid _ := up2 H41.out hb hS41
    have hS141 := Nat.le_trans hS41 hb.size
    clear hb QO ho
    have hlt41 : at38 < gs.length := by omega
    obtain ⟨b9, o9, cap9, gg41, u9, e9, hg41, c0, c1, hEs, _⟩ := HG.out.1.at hlt41
    obtain ⟨Au, Cu, rfl⟩ := hEs.val
    simp only [Value.slice.injEq, Option.some.injEq, Addr.mk.injEq, and_true, true_and] at e9
    obtain ⟨⟨rfl, rfl⟩, rfl⟩ := e9
    obtain ⟨tag41, es41⟩ := gg41
    dsimp only at c0 c1 hEs
    have hE41 := HG.out.2.1 _ (List.mem_of_getElem? hg41)
    have c0 := (H141.out.2.2.1.cell (cell_lt c0)).trans c0
    have c1 := (H141.out.2.2.1.cell (cell_lt c1)).trans c1
    have QT := nextIs_any R b o gs.length C at38 ⟨#[77, 83, 84]⟩ tag41 Au es41.length Cu _ _ _ _ _ _ _ _ _ w42 H141.out.1 hlt41 c0 c1
    clear c0 c1 hEs
    by_cases ht41 : tag41 = ⟨#[77, 83, 84]⟩
    · rw [tag_beq1 ht41] at QT
      go_wp2_with fail
      refine (QT).mono ?_
      rintro ew44 w44 ⟨rfl, hb⟩
      have H241 : Hid _ := up2 H141.out hb hS141
      clear hb QT
      have QX := endMessage_any N R b o C Cm Cd Am Ad at38 num s39.n s39.k s39.mn frm tt (.slice Ab bs.length Cb) bs ms ps s39.bd gs tag41 es41 w0 w44 H241.out.1 HG.out.1 hg41 hE41.2 HG.out.2.2.1 HN.out.1 hm041 hm141 (by omega) (by omega) H241.out.2.2.1 HN.out.2.2.2.1 HN.out.2.2.2.2 H241.out.2.2.2 H241.out.2.1
      obtain ⟨z, hz⟩ : ∃ z, z = endC s39.mn s39.bd.length (tag41, es41) := ⟨_, rfl⟩
      rw [← hz] at QX
      by_cases hz0 : z = 0
      · rw [hz0] at QX
        go_wp2_with fail
        refine (QX).mono ?_
        rintro ew45 w45 ⟨hb, hn, rfl, hx⟩
        rcases hx with ⟨hx, _⟩ | ⟨_, gA, gC, hx, hr⟩
        · exact absurd rfl hx
        have H341 : Hid _ := And.intro hx (And.intro hr (And.intro hb hn))
        clear hx hr hb hn QX
        have hI2 := HI40.out.next hg41 (st2_end ht41 (hz.symm.trans hz0))
        go_wp2_with fail
        go_step3
        exact ⟨⟨⟨_, _, _, _, _, _, _, _, _, _, _, _, _, _, _, _, _, _, _, _, _, _, _, _, _, _, _, _, _, _, _, _, _, _, _, _, _, _, _, _, _, _, rfl⟩, (at38 + 1), { s39 with ms := s39.ms ++ [⟨s39.mn, s39.bd⟩] }, .inr (.inl ⟨rfl, hI2, ⟨Ab, Cb, some ⟨gA, 0, none⟩, gC, Ad, s39.bd.length, Cd, s39.mn, bs, ms ++ [(⟨s39.mn, s39.bd⟩, .slice Ad s39.bd.length Cd, ps)], HS41.out.1, by rw [List.map_append, HS41.out.2]; rfl, ⟨hbl41, by simp; omega, hn041, hn141⟩, by simpa using H341.out.1, by simpa using H341.out.2.1, H341.out.2.2.1, H341.out.2.2.2, by omega⟩⟩)⟩, by show gs.length + 1 - placeR R _ < gs.length + 1 - placeR R wI; rw [HM.out, placeR_of H341.out.1]; omega⟩
      go_wp2_with fail
      refine (QX).mono ?_
      rintro ew45 w45 ⟨hb, hn, rfl, hx⟩
      rcases hx with ⟨_, hx, hr⟩ | ⟨hx, _⟩
      rotate_left
      · exact absurd hx hz0
      have H341 : Hid _ := And.intro hx (And.intro hr (And.intro hb hn))
      clear hx hr hb hn QX
      have g0 : (z != 0) = true := by simpa using hz0
      have hst := st2_endz (num := num) (s := s39) ht41 (fun e => hz0 (hz.trans e))
      rw [← hz] at hst
      clear hz
      have HZ0 : Hid (¬ z = 0) := hz0
      clear hz0
      have HF46 : Hid (z = c ∧ at38 = p) := HI40.out.stop hg41 hst
      go_wp2_with fail
      simp only [jumpsX]
      go_ret
      exact ⟨by first | (rw [← HF46.out.1]; rfl) | rw [← HF46.out.1], _, _, _, _, _, _, by rw [← HF46.out.2]; exact H341.out.1, fun h0 => absurd (HF46.out.1.trans h0) HZ0.out, H341.out.2.2⟩
    rw [tag_beq ht41] at QT
    go_wp2_with fail
    refine (QT).mono ?_
    rintro ew44 w44 ⟨rfl, hb⟩
    have H241 : Hid _ := up2 H141.out hb hS141
    clear hb QT
    have QB := takeSegment_any N R b o C Cd Ad at38 num s39.n s39.k s39.mn frm tt (.slice Ab bs.length Cb) (.slice Am ms.length Cm) bs ms ps s39.bd gs tag41 es41 w0 w44 H241.out.1 HG.out.1 hg41 hE41.2 hE41.1 HN.out.1 (by omega) H241.out.2.2.1 HN.out.2.2.2.1 HN.out.2.2.2.2 H241.out.2.2.2 H241.out.2.1
    go_wp2_with fail
    refine (QB).mono ?_
    rintro ew45 w45 ⟨hb, hn, hx⟩
    clear QB
    rcases hx with ⟨q1, q2, rfl, gA, gC, u, vals, hx, hr⟩ | ⟨q1, rfl, hx, hr⟩
    rotate_left
    · have H341 : Hid _ := And.intro hx (And.intro hr (And.intro hb hn))
      clear hx hr hb hn
      have HF47 : Hid (3 = c ∧ at38 = p) := HI40.out.stop hg41 (st2_no ht41 q1)
      go_wp2_with fail
      simp only [jumpsX]
      go_ret
      exact ⟨by first | (rw [← HF47.out.1]; rfl) | rw [← HF47.out.1], _, _, _, _, _, _, by rw [← HF47.out.2]; exact H341.out.1, fun h0 => absurd (HF47.out.1.trans h0) (by decide), H341.out.2.2⟩
    have H341 : Hid _ := And.intro hx (And.intro hr (And.intro hb hn))
    clear hx hr hb hn
    have hI2 := HI40.out.next hg41 (st2_seg ht41 q1 q2)
    go_wp2_with fail
    go_step3
    exact ⟨⟨⟨_, _, _, _, _, _, _, _, _, _, _, _, _, _, _, _, _, _, _, _, _, _, _, _, _, _, _, _, _, _, _, _, _, _, _, _, _, _, _, _, _, _, rfl⟩, (at38 + 1), { s39 with bd := s39.bd ++ [(tag41, es41)] }, .inr (.inr (.inl ⟨rfl, hI2, ⟨Ab, Cb, Am, Cm, some ⟨gA, 0, none⟩, gC, bs, ms, ps ++ [(u, vals)], HS41.out.1, HS41.out.2, ⟨hbl41, hml41, by simp; omega, hn041, hn141, hm041, hm141⟩, by simpa using H341.out.1, by simpa using H341.out.2.1, H341.out.2.2.1, H341.out.2.2.2, by omega⟩⟩))⟩, by show gs.length + 1 - placeR R _ < gs.length + 1 - placeR R wI; rw [HM.out, placeR_of H341.out.1]; omega⟩
  · refine ⟨_, rfl, ?_⟩
    have HI : Hid _ := hI
    clear hI
    have hge : atI ≤ atI := Nat.le_refl _
    have HM : Hid (placeR R wI = atI) := by obtain ⟨_, _, _, _, _, _, _, _, _, _, _, _, hx, _⟩ := hS; exact placeR_of hx
    obtain ⟨Ab, Cb, Am, Cm, Ad, Cd, bs, ms, ps, hbs48, hms48, ⟨hbl48, hml48, hdl48, hn048, hn148, hm048, hm148⟩, hX, hO, hB, hN, hat48⟩ := hS
    have HS48 : Hid (bs.map (·.1) = s.bs ∧ ms.map (·.1) = s.ms) := ⟨hbs48, hms48⟩
    have H48 : Hid _ := And.intro hX (And.intro hO (And.intro hB hN))
    have hS48 := hB.size
    clear hX hO hB hN hbs48 hms48
    by_cases hend49 : gs.length ≤ atI
    · have ho : ((atI : Int) == (gs.length : Int)) = true := by simp; omega
      have QO := over_any R _ gs.length C (atI : Int) _ _ _ _ _ _ _ _ _ wI H48.out.1
      rw [ho] at QO
      go_wp2_with fail
      refine (QO).mono ?_
      rintro ew49 w49 ⟨rfl, hb⟩
      have HH49 : Hid _ := up2 H48.out hb hS48
      clear hb QO ho
      have HF50 : Hid (4 = c ∧ atI = p) := by have := HI.out.fin hend49; simp at this; exact ⟨this.1.symm, this.2.1⟩
      go_wp2_with fail
      simp only [jumpsX]
      go_ret
      exact ⟨by rw [← HF50.out.1]; rfl, _, _, _, _, _, _, by rw [← HF50.out.2]; exact HH49.out.1, fun h0 => absurd (HF50.out.1.trans h0) (by decide), HH49.out.2.2⟩
    have ho : ((atI : Int) == (gs.length : Int)) = false := by simp; omega
    have QO := over_any R _ gs.length C (atI : Int) _ _ _ _ _ _ _ _ _ wI H48.out.1
    rw [ho] at QO
    go_wp2_with fail
    refine (QO).mono ?_
    rintro ew49 w49 ⟨rfl, hb⟩
    have H148 : Hid _ := up2 H48.out hb hS48
    have hS148 := Nat.le_trans hS48 hb.size
    clear hb QO ho
    have hlt48 : atI < gs.length := by omega
    obtain ⟨b9, o9, cap9, gg48, u9, e9, hg48, c0, c1, hEs, _⟩ := HG.out.1.at hlt48
    obtain ⟨Au, Cu, rfl⟩ := hEs.val
    simp only [Value.slice.injEq, Option.some.injEq, Addr.mk.injEq, and_true, true_and] at e9
    obtain ⟨⟨rfl, rfl⟩, rfl⟩ := e9
    obtain ⟨tag48, es48⟩ := gg48
    dsimp only at c0 c1 hEs
    have hE48 := HG.out.2.1 _ (List.mem_of_getElem? hg48)
    have c0 := (H148.out.2.2.1.cell (cell_lt c0)).trans c0
    have c1 := (H148.out.2.2.1.cell (cell_lt c1)).trans c1
    have QT := nextIs_any R b o gs.length C atI ⟨#[77, 83, 84]⟩ tag48 Au es48.length Cu _ _ _ _ _ _ _ _ _ w49 H148.out.1 hlt48 c0 c1
    clear c0 c1 hEs
    by_cases ht48 : tag48 = ⟨#[77, 83, 84]⟩
    · rw [tag_beq1 ht48] at QT
      go_wp2_with fail
      refine (QT).mono ?_
      rintro ew51 w51 ⟨rfl, hb⟩
      have H248 : Hid _ := up2 H148.out hb hS148
      clear hb QT
      have QX := endMessage_any N R b o C Cm Cd Am Ad atI num s.n s.k s.mn frm tt (.slice Ab bs.length Cb) bs ms ps s.bd gs tag48 es48 w0 w51 H248.out.1 HG.out.1 hg48 hE48.2 HG.out.2.2.1 HN.out.1 hm048 hm148 (by omega) (by omega) H248.out.2.2.1 HN.out.2.2.2.1 HN.out.2.2.2.2 H248.out.2.2.2 H248.out.2.1
      obtain ⟨z, hz⟩ : ∃ z, z = endC s.mn s.bd.length (tag48, es48) := ⟨_, rfl⟩
      rw [← hz] at QX
      by_cases hz0 : z = 0
      · rw [hz0] at QX
        go_wp2_with fail
        refine (QX).mono ?_
        rintro ew52 w52 ⟨hb, hn, rfl, hx⟩
        rcases hx with ⟨hx, _⟩ | ⟨_, gA, gC, hx, hr⟩
        · exact absurd rfl hx
        have H348 : Hid _ := And.intro hx (And.intro hr (And.intro hb hn))
        clear hx hr hb hn QX
        have hI2 := HI.out.next hg48 (st2_end ht48 (hz.symm.trans hz0))
        go_wp2_with fail
        go_step3
        exact ⟨⟨⟨_, _, _, _, _, _, _, _, _, _, _, _, _, _, _, _, _, _, _, _, _, _, _, _, _, _, _, _, _, _, _, _, _, _, _, _, _, _, _, _, _, _, rfl⟩, (atI + 1), { s with ms := s.ms ++ [⟨s.mn, s.bd⟩] }, .inr (.inl ⟨rfl, hI2, ⟨Ab, Cb, some ⟨gA, 0, none⟩, gC, Ad, s.bd.length, Cd, s.mn, bs, ms ++ [(⟨s.mn, s.bd⟩, .slice Ad s.bd.length Cd, ps)], HS48.out.1, by rw [List.map_append, HS48.out.2]; rfl, ⟨hbl48, by simp; omega, hn048, hn148⟩, by simpa using H348.out.1, by simpa using H348.out.2.1, H348.out.2.2.1, H348.out.2.2.2, by omega⟩⟩)⟩, by show gs.length + 1 - placeR R _ < gs.length + 1 - placeR R wI; rw [HM.out, placeR_of H348.out.1]; omega⟩
      go_wp2_with fail
      refine (QX).mono ?_
      rintro ew52 w52 ⟨hb, hn, rfl, hx⟩
      rcases hx with ⟨_, hx, hr⟩ | ⟨hx, _⟩
      rotate_left
      · exact absurd hx hz0
      have H348 : Hid _ := And.intro hx (And.intro hr (And.intro hb hn))
      clear hx hr hb hn QX
      have g0 : (z != 0) = true := by simpa using hz0
      have hst := st2_endz (num := num) (s := s) ht48 (fun e => hz0 (hz.trans e))
      rw [← hz] at hst
      clear hz
      have HZ0 : Hid (¬ z = 0) := hz0
      clear hz0
      have HF53 : Hid (z = c ∧ atI = p) := HI.out.stop hg48 hst
      go_wp2_with fail
      simp only [jumpsX]
      go_ret
      exact ⟨by first | (rw [← HF53.out.1]; rfl) | rw [← HF53.out.1], _, _, _, _, _, _, by rw [← HF53.out.2]; exact H348.out.1, fun h0 => absurd (HF53.out.1.trans h0) HZ0.out, H348.out.2.2⟩
    rw [tag_beq ht48] at QT
    go_wp2_with fail
    refine (QT).mono ?_
    rintro ew51 w51 ⟨rfl, hb⟩
    have H248 : Hid _ := up2 H148.out hb hS148
    clear hb QT
    have QB := takeSegment_any N R b o C Cd Ad atI num s.n s.k s.mn frm tt (.slice Ab bs.length Cb) (.slice Am ms.length Cm) bs ms ps s.bd gs tag48 es48 w0 w51 H248.out.1 HG.out.1 hg48 hE48.2 hE48.1 HN.out.1 (by omega) H248.out.2.2.1 HN.out.2.2.2.1 HN.out.2.2.2.2 H248.out.2.2.2 H248.out.2.1
    go_wp2_with fail
    refine (QB).mono ?_
    rintro ew52 w52 ⟨hb, hn, hx⟩
    clear QB
    rcases hx with ⟨q1, q2, rfl, gA, gC, u, vals, hx, hr⟩ | ⟨q1, rfl, hx, hr⟩
    rotate_left
    · have H348 : Hid _ := And.intro hx (And.intro hr (And.intro hb hn))
      clear hx hr hb hn
      have HF54 : Hid (3 = c ∧ atI = p) := HI.out.stop hg48 (st2_no ht48 q1)
      go_wp2_with fail
      simp only [jumpsX]
      go_ret
      exact ⟨by first | (rw [← HF54.out.1]; rfl) | rw [← HF54.out.1], _, _, _, _, _, _, by rw [← HF54.out.2]; exact H348.out.1, fun h0 => absurd (HF54.out.1.trans h0) (by decide), H348.out.2.2⟩
    have H348 : Hid _ := And.intro hx (And.intro hr (And.intro hb hn))
    clear hx hr hb hn
    have hI2 := HI.out.next hg48 (st2_seg ht48 q1 q2)
    go_wp2_with fail
    go_step3
    exact ⟨⟨⟨_, _, _, _, _, _, _, _, _, _, _, _, _, _, _, _, _, _, _, _, _, _, _, _, _, _, _, _, _, _, _, _, _, _, _, _, _, _, _, _, _, _, rfl⟩, (atI + 1), { s with bd := s.bd ++ [(tag48, es48)] }, .inr (.inr (.inl ⟨rfl, hI2, ⟨Ab, Cb, Am, Cm, some ⟨gA, 0, none⟩, gC, bs, ms, ps ++ [(u, vals)], HS48.out.1, HS48.out.2, ⟨hbl48, hml48, by simp; omega, hn048, hn148, hm048, hm148⟩, by simpa using H348.out.1, by simpa using H348.out.2.1, H348.out.2.2.1, H348.out.2.2.2, by omega⟩⟩))⟩, by show gs.length + 1 - placeR R _ < gs.length + 1 - placeR R wI; rw [HM.out, placeR_of H348.out.1]; omega⟩
  · refine ⟨_, rfl, ?_⟩
    have HI : Hid _ := hI
    clear hI
    have hge : atI ≤ atI := Nat.le_refl _
    have HM : Hid (placeR R wI = atI) := by obtain ⟨_, _, _, _, _, _, _, _, _, _, _, _, _, _, hx, _⟩ := hS; exact placeR_of hx
    obtain ⟨Ab, Cb, Am, nm, Cm, Ad, nd, Cd, n, k, mn, bs, hbs55, hbl55, hX, hO, hB, hN, hat55⟩ := hS
    have HS55 : Hid (bs.map (·.1) = s.bs) := hbs55
    have H55 : Hid _ := And.intro hX (And.intro hO (And.intro hB hN))
    have hS55 := hB.size
    clear hX hO hB hN hbs55
    by_cases hend56 : gs.length ≤ atI
    · have ho : ((atI : Int) == (gs.length : Int)) = true := by simp; omega
      have QO := over_any R _ gs.length C (atI : Int) _ _ _ _ _ _ _ _ _ wI H55.out.1
      rw [ho] at QO
      go_wp2_with fail
      refine (QO).mono ?_
      rintro ew56 w56 ⟨rfl, hb⟩
      have HH56 : Hid _ := up0 H55.out hb hS55
      clear hb QO ho
      have HF56 : Hid (0 = c ∧ atI = p ∧ bsF = s.bs) := by have := HI.out.fin hend56; simp at this; exact ⟨this.1.symm, this.2.1, this.2.2⟩
      go_wp2_with fail
      simp only [jumpsX]
      go_ret
      exact ⟨by rw [← HF56.out.1]; rfl, _, _, _, _, _, _, by rw [← HF56.out.2.1]; exact HH56.out.1, fun _ => ⟨Ab, Cb, bs, rfl, by rw [HF56.out.2.2]; exact HS55.out, hbl55, HH56.out.2.1⟩, HH56.out.2.2⟩
    · have ho : ((atI : Int) == (gs.length : Int)) = false := by simp; omega
      have QO := over_any R _ gs.length C (atI : Int) _ _ _ _ _ _ _ _ _ wI H55.out.1
      rw [ho] at QO
      go_wp2_with fail
      refine (QO).mono ?_
      rintro ew56 w56 ⟨rfl, hb⟩
      have HH56 : Hid _ := up0 H55.out hb hS55
      clear hb QO ho
      obtain ⟨g, hg⟩ : ∃ g, gs[atI]? = some g := ⟨_, List.getElem?_eq_getElem (by omega)⟩
      have HF57 : Hid (3 = c ∧ atI = p) := HI.out.stop hg st3_no
      go_wp2_with fail
      simp only [jumpsX]
      go_ret
      exact ⟨by first | (rw [← HF57.out.1]; rfl) | rw [← HF57.out.1], _, _, _, _, _, _, by rw [← HF57.out.2]; exact HH56.out.1, fun h0 => absurd (HF57.out.1.trans h0) (by decide), HH56.out.2.2⟩
end Go.Proofs.YtjnikogaleofaaaDoor
