/- What PartnerRun tells, by the numbers taken so far and the greatest of them: pure. -/
import Derived.Test.YtbnjieppcojckaaRunP
namespace Go.Proofs.Ytbnjieppcojckaa
open Go.ChangeShapes Go.WideShapes Go.ChangeAt Go.RowKit
/-- The kind by the window's foot and what has come. -/
def wKind (low : Int) (taken : List Int) (k : Int) : Int := if k < low then 3 else if k ∈ taken then 2 else 1
def wLow (low k : Int) : Int := if low < k - 31 then k - 31 else low
/-- The partner stands as the numbers so far say. -/
structure Win (p : Ptn) (low : Int) (taken : List Int) : Prop where
  ok : ptnB p = true
  lw : p.low = low
  nx : p.next ≤ 1 + (taken.length : Int)
  mem : ∀ k : Int, low ≤ k → (k ∈ taken ↔ ∃ x ∈ p.seen, x.number = k)
theorem find_iff {l : List Sn} {k : Int} : (l.find? (fun x => decide (x.number = k))).isSome = true ↔ ∃ x ∈ l, x.number = k := by
  rw [List.find?_isSome]
  simp
theorem Win.kind {p : Ptn} {low : Int} {taken : List Int} (h : Win p low taken) (k : Int) : kndZ p.low p.seen k = wKind low taken k := by
  unfold kndZ wKind
  rw [h.lw]
  by_cases h1 : k < low
  · rw [if_pos h1, if_pos h1]
  · rw [if_neg h1, if_neg h1]
    have hm := h.mem k (by omega)
    rw [← find_iff] at hm
    by_cases h2 : k ∈ taken
    · have := hm.1 h2
      simp [h2, this]
    · have : ¬ (p.seen.find? (fun x => decide (x.number = k))).isSome = true := fun e => h2 (hm.2 e)
      simp [h2, this]
theorem ptnB_bounds {p : Ptn} (h : ptnB p = true) : ∀ x ∈ p.seen, p.low ≤ x.number ∧ x.number < p.low + 32 := by
  simp only [ptnB, Bool.and_eq_true] at h
  obtain ⟨_, _, _, h4⟩ := h
  have key : ∀ (rs : List Sn) (least : Int), p.low ≤ least → seenB p.low least rs = true → ∀ x ∈ rs, p.low ≤ x.number ∧ x.number < p.low + 32 := by
    intro rs
    induction rs with
    | nil => intro _ _ _ x hx; cases hx
    | cons s r ih =>
      intro least hl hs x hx
      simp only [seenB, snB, Bool.and_eq_true, decide_eq_true_eq] at hs
      rcases List.mem_cons.1 hx with rfl | hx
      · omega
      · exact ih (s.number + 1) (by omega) hs.2 x hx
  exact key p.seen p.low (Int.le_refl _) h4
theorem seenB_of {low : Int} : ∀ {rs : List Sn} {least : Int}, Rise rs → (∀ x ∈ rs, least ≤ x.number) → (∀ x ∈ rs, x.number < low + 32 ∧ x.number ≤ 999999 ∧ ctlB x.answer = true ∧ codeB x.code = true) → seenB low least rs = true
  | [], _, _, _, _ => rfl
  | s :: r, least, hr, hl, hx => by
    obtain ⟨h1, h2⟩ := List.pairwise_cons.1 hr
    have hs := hx s (by simp)
    have := hl s (by simp)
    simp only [seenB, snB, Bool.and_eq_true, decide_eq_true_eq]
    refine ⟨⟨this, hs.1, hs.2.1, hs.2.2.1, hs.2.2.2⟩, seenB_of h2 (fun x hx' => ?_) (fun x hx' => hx x (by simp [hx']))⟩
    have := h1 x hx'
    omega
theorem ptnB_each {p : Ptn} (h : ptnB p = true) : ∀ x ∈ p.seen, ctlB x.answer = true ∧ codeB x.code = true := by
  simp only [ptnB, Bool.and_eq_true] at h
  obtain ⟨_, _, _, h4⟩ := h
  have key : ∀ (rs : List Sn) (least : Int), seenB p.low least rs = true → ∀ x ∈ rs, ctlB x.answer = true ∧ codeB x.code = true := by
    intro rs
    induction rs with
    | nil => intro _ _ x hx; cases hx
    | cons s r ih =>
      intro least hs x hx
      simp only [seenB, snB, Bool.and_eq_true, decide_eq_true_eq] at hs
      rcases List.mem_cons.1 hx with rfl | hx
      · exact hs.1.2.2.2
      · exact ih (s.number + 1) hs.2 x hx
  exact key p.seen p.low h4
/-- A right partner is right behind a new number. -/
theorem newPt_right {p : Ptn} {k c : Int} (hr : ptnB p = true) (hk : ctlB k = true) (hc : codeB c = true) (h : kndZ p.low p.seen k = 1) (hx : p.next ≠ 999999) : ptnB (newPt p k c) = true := by
  have hkk := ctlB_iff.1 hk
  have hf := newPt_facts (c := c) hr hkk h
  have hb := ptnB_bounds hr
  have he := ptnB_each hr
  have hnk := (kndZ_new h).1
  have hr' := hr
  simp only [ptnB, Bool.and_eq_true] at hr'
  obtain ⟨r1, r2, r3, r4⟩ := hr'
  have l1 := ctlB_iff.1 r2
  have l2 := ctlB_iff.1 r3
  simp only [ptnB, Bool.and_eq_true]
  refine ⟨r1, ctlB_iff.2 ?_, ctlB_iff.2 ?_, seenB_of hf.1 (fun x hx => ?_) (fun x hx => ?_)⟩
  · show 1 ≤ max p.low (k - 31) ∧ max p.low (k - 31) ≤ 999999
    omega
  · show 1 ≤ p.next + 1 ∧ p.next + 1 ≤ 999999
    omega
  · show max p.low (k - 31) ≤ x.number
    rcases ins_mem.1 hx with rfl | hx
    · show max p.low (k - 31) ≤ k
      omega
    · obtain ⟨m1, m2⟩ := List.mem_filter.1 hx
      have m3 := of_decide_eq_true m2
      have := (hb x m1).1
      omega
  · show x.number < max p.low (k - 31) + 32 ∧ _
    have hx2 := hf.2.2.1 x hx
    rcases ins_mem.1 hx with rfl | hx
    · refine ⟨?_, hx2.2, r3, hc⟩
      show k < max p.low (k - 31) + 32
      omega
    · obtain ⟨m1, m2⟩ := List.mem_filter.1 hx
      have := (hb x m1).2
      exact ⟨by omega, hx2.2, he x m1⟩
theorem Win.step {p : Ptn} {low : Int} {taken : List Int} {k : Int} (h : Win p low taken) (hk : ctlB k = true) (hl : taken.length ≤ 400) : Win (stepP p k) (wLow low k) (taken ++ [k]) ∧ (takeT p k 0).kind = wKind low taken k := by
  have hkk := ctlB_iff.1 hk
  have hok : (ptnB p && (ctlB k && codeB 0)) = true := by
    rw [h.ok, hk]
    rfl
  have hkind := h.kind k
  have hb := ptnB_bounds h.ok
  have hlow := h.lw
  have hnx := h.nx
  by_cases h1 : kndZ p.low p.seen k = 1
  · have h2 : p.next ≠ 999999 := by omega
    have ht := takeT_new hok h1 h2
    have hs : stepP p k = newPt p k 0 := by simp [stepP, ht]
    rw [hs]
    have hnk := (kndZ_new h1).1
    have hlw : wLow low k = max p.low (k - 31) := by
      unfold wLow
      split <;> omega
    refine ⟨⟨newPt_right h.ok hk rfl h1 h2, hlw.symm, ?_, fun j hj => ?_⟩, by rw [ht, ← hkind, h1]⟩
    · show p.next + 1 ≤ _
      simp
      omega
    · rw [hlw] at hj
      rw [List.mem_append, h.mem j (by omega), List.mem_singleton]
      constructor
      · rintro (⟨x, hx, e⟩ | e)
        · exact ⟨x, ins_mem.2 (.inr (List.mem_filter.2 ⟨hx, by simp; omega⟩)), e⟩
        · exact ⟨_, ins_mem.2 (.inl rfl), e.symm⟩
      · rintro ⟨x, hx, e⟩
        rcases ins_mem.1 hx with rfl | hx
        · exact .inr e.symm
        · exact .inl ⟨x, (List.mem_filter.1 hx).1, e⟩
  · have ht := takeT_old hok h1
    have hs : stepP p k = p := by simp [stepP, ht]
    rw [hs]
    have hcase : k < low ∨ (∃ x ∈ p.seen, x.number = k) := by
      by_cases g : k < low
      · exact .inl g
      · refine .inr ?_
        have g2 : k ∈ taken := by
          by_cases g3 : k ∈ taken
          · exact g3
          · exact absurd (by rw [hkind]; simp [wKind, g, g3]) h1
        exact (h.mem k (by omega)).1 g2
    have hlw : wLow low k = low := by
      unfold wLow
      refine if_neg ?_
      rcases hcase with g | ⟨x, hx, e⟩
      · omega
      · have := hb x hx
        omega
    rw [hlw]
    refine ⟨⟨h.ok, h.lw, by simp; omega, fun j hj => ?_⟩, by rw [ht]; exact hkind⟩
    rw [List.mem_append, h.mem j hj, List.mem_singleton]
    constructor
    · rintro (g | rfl)
      · exact g
      · rcases hcase with g | g
        · omega
        · exact g
    · exact .inl
theorem newP_win {name : ByteArray} (h : nameB name = true) : Win (newP name) 1 [] := by
  have e : newP name = ⟨name, 1, 1, []⟩ := by simp [newP, h]
  rw [e]
  refine ⟨by simp [ptnB, h, seenB, ctlB], rfl, by simp, fun k _ => by simp⟩
theorem runK_len : ∀ (zs : List Int) (p : Ptn), (runK p zs).length = zs.length
  | [], _ => rfl
  | z :: r, p => by simp [runK, runK_len r (stepP p z)]
/-- What the law's loop keeps: so far the answers are those of a partner who stands as the numbers so far say. -/
def WLaw (s : ByteArray) (xs : List Int) (k : Nat) (low : Int) : Prop := k < (runL s xs).length → ∃ p, Win p low (xs.take k) ∧ (runL s xs).drop k = runK p (xs.drop k) ∧ okRun s xs = true
theorem wlaw_zero (s : ByteArray) (xs : List Int) : WLaw s xs 0 1 := by
  intro h
  cases hok : okRun s xs with
  | false =>
    rw [runL_no hok] at h
    simp at h
  | true =>
    have hn : nameB s = true := by
      simp only [okRun, Bool.and_eq_true] at hok
      exact hok.2.1
    exact ⟨newP s, newP_win hn, by rw [runL_yes hok]; rfl, rfl⟩
theorem WLaw.low1 {s : ByteArray} {xs : List Int} {k : Nat} {low : Int} (h : WLaw s xs k low) (hk : k < (runL s xs).length) : 1 ≤ low ∧ low ≤ 999999 := by
  obtain ⟨p, hw, _, _⟩ := h hk
  have := hw.ok
  simp only [ptnB, Bool.and_eq_true] at this
  have l := ctlB_iff.1 this.2.1
  rw [hw.lw] at l
  exact l
theorem WLaw.step {s : ByteArray} {xs : List Int} {k : Nat} {low : Int} (h : WLaw s xs k low) (hk : k < (runL s xs).length) : k < xs.length ∧ k < 400 ∧ ∀ z, xs[k]? = some z → (1 ≤ z ∧ z ≤ 999999) ∧ (runL s xs)[k]? = some (wKind low (xs.take k) z) ∧ WLaw s xs (k + 1) (wLow low z) := by
  obtain ⟨p, hw, hd, hok⟩ := h hk
  have hlen : (runL s xs).length = xs.length := by rw [runL_yes hok, runK_len]
  have hp := hok
  simp only [okRun, Bool.and_eq_true, decide_eq_true_eq] at hp
  refine ⟨by omega, by omega, fun z hz => ?_⟩
  have hc : ctlB z = true := List.all_eq_true.1 hp.2.2 z (List.mem_of_getElem? hz)
  obtain ⟨hs, hkd⟩ := hw.step hc (by simp; omega)
  rw [runK_step hz] at hd
  have e0 : (runL s xs)[k]? = some (takeT p z 0).kind := by
    have : ((runL s xs).drop k)[0]? = some (takeT p z 0).kind := by rw [hd]; rfl
    rw [List.getElem?_drop] at this
    simpa using this
  refine ⟨ctlB_iff.1 hc, by rw [e0, hkd], fun _ => ⟨stepP p z, ?_, ?_, hok⟩⟩
  · have : xs.take (k + 1) = xs.take k ++ [z] := by rw [List.take_add_one, hz]; rfl
    rw [this]
    exact hs
  · have : (runL s xs).drop (k + 1) = ((runL s xs).drop k).drop 1 := by rw [List.drop_drop]
    rw [this, hd]
    rfl
theorem wKind_cases (low : Int) (l : List Int) (z : Int) : wKind low l z = 1 ∨ wKind low l z = 2 ∨ wKind low l z = 3 := by
  unfold wKind
  split
  · exact .inr (.inr rfl)
  · split
    · exact .inr (.inl rfl)
    · exact .inl rfl
theorem wKind_same {low : Int} {T : List Int} {m : Nat} {t z : Int} (ht : T[m]? = some t) (hne : t ≠ z) : wKind low (T.take (m + 1)) z = wKind low (T.take m) z := by
  have : T.take (m + 1) = T.take m ++ [t] := by rw [List.take_add_one, ht]; rfl
  have h2 : z ≠ t := fun e => hne e.symm
  unfold wKind
  rw [this]
  simp [h2]
theorem wKind_there {low : Int} {T : List Int} {m : Nat} {z : Int} (ht : T[m]? = some z) (h1 : wKind low (T.take m) z = 1) : wKind low (T.take (m + 1)) z = 2 := by
  have : T.take (m + 1) = T.take m ++ [z] := by rw [List.take_add_one, ht]; rfl
  unfold wKind at h1 ⊢
  split at h1
  · omega
  · rename_i g
    rw [if_neg g, this]
    simp
theorem wKind_stay {low : Int} {T : List Int} {m : Nat} {t z : Int} (ht : T[m]? = some t) (h1 : wKind low (T.take m) z ≠ 1) : wKind low (T.take (m + 1)) z = wKind low (T.take m) z := by
  have : T.take (m + 1) = T.take m ++ [t] := by rw [List.take_add_one, ht]; rfl
  unfold wKind at h1 ⊢
  by_cases g : z < low
  · rw [if_pos g, if_pos g]
  · rw [if_neg g] at h1
    rw [if_neg g, if_neg g]
    by_cases g2 : z ∈ T.take m
    · rw [if_pos g2, if_pos (by rw [this]; simp [g2])]
    · rw [if_neg g2] at h1
      exact absurd rfl h1
end Go.Proofs.Ytbnjieppcojckaa
