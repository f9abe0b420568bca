/- Texts of ours put together: GtLo, PnP, ItP, BkP, GtP, PtF. -/
import Derived.Test.YtkgkahlhekecmaaGreatG27
import Derived.Test.YtkgkahlhekecmaaGreatG16
import Derived.Test.YtkgkahlhekecmaaGreatG13
import Derived.Test.YtkgkahlhekecmaaGreatG00
import Derived.Test.YtkgkahlhekecmaaGreatG17
import Derived.Test.YtkgkahlhekecmaaGreatG18
import Derived.Test.YtkgkahlhekecmaaGreatG01
import Derived.Test.YtkgkahlhekecmaaGreatG21
import Derived.Test.YtkgkahlhekecmaaGreatG23
import Derived.Deep.LoopGhost
namespace Go.Proofs.YtkgkahlhekecmaaGreat
open Go.ChangeShapes Go.WideShapes Go.ChangeAt Go.RowKit
theorem lsn_of_owns {W : World} {base : Nat} {v : Value} {rs : List Sn} (h : W.ownsRow base 148 3 v rs.length (clSns rs)) (hl : rs.length ≤ 9223372036854775807) : LSn (blkS v) W v rs := by
  rcases h.2 with ⟨rfl, h0⟩ | ⟨b, cap, cur, rfl, hb, hh, hc, hm, hs, ht⟩
  · exact ⟨⟨none, 0, by rw [h0], fun hn => absurd (List.eq_nil_of_length_eq_zero h0) hn⟩, hl⟩
  · refine ⟨⟨_, _, rfl, fun _ => ⟨rfl, cap * 3, fun i => cur[i]?.getD undef, ⟨cur, hh, hs, fun i hi => by simp [hs, hi]⟩, Nat.mul_le_mul_right _ hc, fun i g hi => ?_⟩⟩, hl⟩
    obtain ⟨e0, e1, e2⟩ := clSns_at hi
    have hlt := (List.getElem?_eq_some_iff.1 hi).1
    rw [← ht] at e0 e1 e2
    have get : ∀ (j : Nat) (x : Value), j < rs.length * 3 → (cur.toList.take (rs.length * 3))[j]? = some x → cur[j]?.getD undef = x := fun j x hj hx => by
      rw [List.getElem?_take_of_lt hj, Array.getElem?_toList] at hx
      rw [hx]
      rfl
    exact ⟨get _ _ (by omega) e0, get _ _ (by omega) e1, get _ _ (by omega) e2⟩
theorem own_blkS {W : World} {base : Nat} {v : Value} {rs : List Sn} (h : W.ownsRow base 148 3 v rs.length (clSns rs)) (hn : rs ≠ []) : v.ownBlock = some (blkS v) ∧ base ≤ blkS v := by
  rcases h.2 with ⟨rfl, h0⟩ | ⟨b, cap, cur, rfl, hb, _⟩
  · exact absurd (List.eq_nil_of_length_eq_zero h0) hn
  · exact ⟨rfl, hb⟩
theorem lpt_of_ownP {n : Nat} {W : World} {v : Value} {qs : List (Ptn × Value)} (h : OwnP n W v qs) (hl : qs.length ≤ 9223372036854775807) (hz : ∀ q ∈ qs, q.1.name.size ≤ 9223372036854775807 ∧ q.1.seen.length ≤ 9223372036854775807) : ∃ b f β, LPt W v (qs.map Prod.fst) b f β ∧ ∀ k, blkP (qs.map Prod.fst) b β k → n ≤ k := by
  have hget : ∀ {i : Nat} {p : Ptn}, (qs.map Prod.fst)[i]? = some p → ∃ q, qs[i]? = some q ∧ q.1 = p := fun {i p} hi => by
    rw [List.getElem?_map] at hi
    obtain ⟨q, hq, rfl⟩ := Option.map_eq_some_iff.1 hi
    exact ⟨q, hq, rfl⟩
  obtain ⟨f, hf⟩ : ∃ f : Nat → Value, ∀ i q, qs[i]? = some q → f i = q.2 := ⟨fun i => ((qs[i]?).map Prod.snd).getD (.slice none 0 0), fun i q hq => by simp [hq]⟩
  have hsn : ∀ (i : Nat) (p : Ptn), (qs.map Prod.fst)[i]? = some p → LSn (blkS (f i)) W (f i) p.seen := fun i p hi => by
    obtain ⟨q, hq, rfl⟩ := hget hi
    have hm := List.mem_of_getElem? hq
    rw [hf i q hq]
    exact lsn_of_owns (h.sn q hm) (hz q hm).2
  have hap : ∀ (i j : Nat) (p q : Ptn), i ≠ j → (qs.map Prod.fst)[i]? = some p → (qs.map Prod.fst)[j]? = some q → p.seen ≠ [] → q.seen ≠ [] → blkS (f i) ≠ blkS (f j) := fun i j p q hij hi hj hp hq => by
    obtain ⟨x, hx, rfl⟩ := hget hi
    obtain ⟨y, hy, rfl⟩ := hget hj
    rw [hf i x hx, hf j y hy]
    have bx := (own_blkS (h.sn x (List.mem_of_getElem? hx)) hp).1
    have by' := (own_blkS (h.sn y (List.mem_of_getElem? hy)) hq).1
    have hpw := h.ap
    rw [List.pairwise_iff_getElem] at hpw
    obtain ⟨li, ei⟩ := List.getElem?_eq_some_iff.1 hx
    obtain ⟨lj, ej⟩ := List.getElem?_eq_some_iff.1 hy
    intro e
    rcases Nat.lt_or_gt_of_ne hij with g | g
    · have := hpw i j li lj g
      rw [ei, ej] at this
      exact this _ bx (by rw [by', e])
    · have := hpw j i lj li g
      rw [ei, ej] at this
      exact this _ by' (by rw [bx, e])
  have hnm : ∀ (i : Nat) (p : Ptn), (qs.map Prod.fst)[i]? = some p → p.name.size ≤ 9223372036854775807 := fun i p hi => by
    obtain ⟨q, hq, rfl⟩ := hget hi
    exact (hz q (List.mem_of_getElem? hq)).1
  have hbl : ∀ (i : Nat) (p : Ptn), (qs.map Prod.fst)[i]? = some p → p.seen ≠ [] → n ≤ blkS (f i) := fun i p hi hp => by
    obtain ⟨q, hq, rfl⟩ := hget hi
    rw [hf i q hq]
    exact (own_blkS (h.sn q (List.mem_of_getElem? hq)) hp).2
  rcases h.row.2 with ⟨rfl, h0⟩ | ⟨b, cap, cur, rfl, hb, hh, hc, hm, hs, ht⟩
  · have : qs = [] := List.eq_nil_of_length_eq_zero h0
    subst this
    exact ⟨n, f, fun i => blkS (f i), ⟨⟨none, 0, rfl, fun hn => absurd rfl hn⟩, hsn, hap, by simp, hnm⟩, fun k hk => by
      rcases hk with ⟨_, hn⟩ | ⟨i, p, hi, _⟩
      · exact absurd rfl hn
      · simp at hi⟩
  · refine ⟨b, f, fun i => blkS (f i), ⟨⟨_, cap, by rw [List.length_map], fun _ => ⟨rfl, cap * 4, fun i => cur[i]?.getD undef, ⟨cur, hh, hs, fun i hi => by simp [hs, hi]⟩, by rw [List.length_map]; exact Nat.mul_le_mul_right _ hc, fun i p hi => ?_⟩⟩, hsn, hap, by simpa using hl, hnm⟩, fun k hk => ?_⟩
    · obtain ⟨q, hq, rfl⟩ := hget hi
      obtain ⟨e0, e1, e2, e3⟩ := clPs_at hq
      have hlt := (List.getElem?_eq_some_iff.1 hq).1
      rw [← ht] at e0 e1 e2 e3
      have get : ∀ (j : Nat) (x : Value), j < qs.length * 4 → (cur.toList.take (qs.length * 4))[j]? = some x → cur[j]?.getD undef = x := fun j x hj hx => by
        rw [List.getElem?_take_of_lt hj, Array.getElem?_toList] at hx
        rw [hx]
        rfl
      rw [hf i q hq]
      exact ⟨get _ _ (by omega) e0, get _ _ (by omega) e1, get _ _ (by omega) e2, get _ _ (by omega) e3⟩
    · rcases hk with ⟨rfl, _⟩ | ⟨i, p, hi, hp, rfl⟩
      · exact hb
      · exact hbl i p hi hp
theorem lgt_of_ogt {n : Nat} {W : World} {up uc us ul ud uo : Value} {g : Gat} {qs : List (Ptn × Value)} {bc bs bl bd bo : Nat} (h : OGt n W up uc us ul ud uo g qs bc bs bl bd bo) (hP : BdGt 1048576 g) : ∃ b f β, LGt W up uc us ul ud uo g b f β bc bs bl bd bo ∧ ∀ k, blkG g b β bc bs bl bd bo k → n ≤ k := by
  have hb := bdp hP
  have hq := h.qm
  have hl := congrArg List.length hq
  rw [List.length_map] at hl
  obtain ⟨b, f, β, k0, l0⟩ := lpt_of_ownP h.pt (by omega) (fun q hm => by
    have := hb.2 q.1 (by rw [← hq]; exact List.mem_map_of_mem hm)
    omega)
  rw [hq] at k0 l0
  obtain ⟨g1, g2, g3, g4, g5⟩ := h.gc
  refine ⟨b, f, β, ⟨h.nm, k0, h.cs, h.st, h.ln, h.df, h.ou⟩, fun k hk => ?_⟩
  rcases hk with hk | ⟨rfl, _⟩ | ⟨rfl, _⟩ | ⟨rfl, _⟩ | ⟨rfl, _⟩ | ⟨rfl, _⟩
  · exact l0 k hk
  all_goals assumption
end Go.Proofs.YtkgkahlhekecmaaGreat
namespace Go.Proofs.YtkgkahlhekecmaaGreat
open Go.ChangeShapes Go.WideShapes Go.ChangeAt Go.RowKit
def codeB (c : Int) : Bool := decide (0 ≤ c) && decide (c ≤ 13)
/-- One that may stand there, its number at least so great. -/
def snB (low least : Int) (s : Sn) : Bool := decide (least ≤ s.number) && (decide (s.number < low + 32) && (decide (s.number ≤ 999999) && (ctlB s.answer && codeB s.code)))
def seenB (low : Int) : Int → List Sn → Bool
  | _, [] => true
  | least, s :: r => snB low least s && seenB low (s.number + 1) r
def ptnB (p : Ptn) : Bool := nameB p.name && (ctlB p.low && (ctlB p.next && seenB p.low p.low p.seen))
theorem seenB_len {low : Int} : ∀ {rs : List Sn} {least : Int}, seenB low least rs = true → least ≤ low + 32 → least + rs.length ≤ low + 32
  | [], least, _, h => by simpa using h
  | s :: r, least, h, _ => by
    simp only [seenB, snB, Bool.and_eq_true, decide_eq_true_eq] at h
    have := seenB_len h.2 (by omega)
    simp only [List.length_cons]
    omega
theorem drop_at {α : Type} {l : List α} {k : Nat} {x : α} (h : l[k]? = some x) : l.drop k = x :: l.drop (k + 1) := by
  obtain ⟨hk, rfl⟩ := List.getElem?_eq_some_iff.1 h
  exact List.drop_eq_getElem_cons hk
theorem seen_step {low z : Int} {rs : List Sn} {k : Nat} {g : Sn} (h : rs[k]? = some g) : seenB low z (rs.drop k) = (snB low z g && seenB low (g.number + 1) (rs.drop (k + 1))) := by
  rw [drop_at h]
  rfl
theorem seen_end {low z : Int} {rs : List Sn} : seenB low z (rs.drop rs.length) = true := by
  rw [List.drop_length]
  rfl
end Go.Proofs.YtkgkahlhekecmaaGreat
namespace Go.Proofs.YtkgkahlhekecmaaGreat
open Go.ChangeShapes Go.WideShapes Go.ChangeAt Go.RowKit
open Go.Lib (compareBytes)
/-- Ahead of: by Partner, then by Theirs. -/
def befB (a b : Crs) : Bool := Op.bytesLess a.partner.toList b.partner.toList || (a.partner.toList == b.partner.toList && Op.bytesLess a.theirs.toList b.theirs.toList)
theorem befB_trans {a b c : Crs} (h1 : befB a b = true) (h2 : befB b c = true) : befB a c = true := by
  simp only [befB, Bool.or_eq_true, Bool.and_eq_true, beq_iff_eq] at h1 h2 ⊢
  rcases h1 with h1 | ⟨e1, h1⟩ <;> rcases h2 with h2 | ⟨e2, h2⟩
  · exact .inl (bl_trans h1 h2)
  · exact .inl (e2 ▸ h1)
  · exact .inl (e1 ▸ h2)
  · exact .inr ⟨e1.trans e2, bl_trans h1 h2⟩
theorem befB_irrefl (a : Crs) : befB a a = false := by simp [befB, bl_irrefl]
/-- itemKey's own order. -/
def kcmp (a b : ByteArray × ByteArray) : Int := if compareBytes a.1.data.toList b.1.data.toList = 0 then compareBytes a.2.data.toList b.2.data.toList else compareBytes a.1.data.toList b.1.data.toList
def thK (c : Crs) : ByteArray × ByteArray := (c.partner, c.theirs)
def owK (c : Crs) : ByteArray × ByteArray := (c.partner, c.own)
theorem befB_key {a b : Crs} (h : befB a b = true) : thK a ≠ thK b := fun e => by
  simp only [thK, Prod.mk.injEq] at e
  simp [befB, e.1, e.2, bl_irrefl] at h
theorem kcmp_pos (c d : Crs) : 0 < kcmp (thK c) (thK d) ↔ befB d c = true := by
  show 0 < (if compareBytes c.partner.data.toList d.partner.data.toList = 0 then compareBytes c.theirs.data.toList d.theirs.data.toList else compareBytes c.partner.data.toList d.partner.data.toList) ↔ befB d c = true
  simp only [befB, Bool.or_eq_true, Bool.and_eq_true, beq_iff_eq, ByteArray.toList_eq]
  by_cases h : compareBytes c.partner.data.toList d.partner.data.toList = 0
  · rw [if_pos h, cb_pos]
    have e := (cb_zero _ _).1 h
    rw [e]
    simp [bl_irrefl]
  · rw [if_neg h, cb_pos]
    have e : ¬ d.partner.data.toList = c.partner.data.toList := fun e => h ((cb_zero _ _).2 e.symm)
    simp [e]
theorem kcmp_first {c : Crs} (h : nameB c.partner = true) : 0 < kcmp (thK c) (⟨#[]⟩, ⟨#[]⟩) := by
  have h1 : 1 ≤ c.partner.size := by
    simp only [nameB, Bool.and_eq_true, decide_eq_true_eq] at h
    exact h.1.1.1
  show 0 < (if compareBytes c.partner.data.toList [] = 0 then compareBytes c.theirs.data.toList [] else compareBytes c.partner.data.toList [])
  cases hl : c.partner.data.toList with
  | nil =>
    have : c.partner.data.toList.length = 0 := by rw [hl]; rfl
    have e : c.partner.size = c.partner.data.toList.length := by simp
    omega
  | cons x r => simp [compareBytes]
/-- All three are names. -/
def crsB (c : Crs) : Bool := nameB c.partner && (nameB c.theirs && nameB c.own)
/-- What is asked at place i. -/
structure OkAt (rs : List Crs) (i : Nat) (c : Crs) : Prop where
  names : crsB c = true
  rise : ∀ d, 0 < i → rs[i - 1]? = some d → befB d c = true
  once : ∀ j d, j < i → rs[j]? = some d → owK d ≠ owK c
structure RightC (rs : List Crs) : Prop where
  len : rs.length ≤ 200
  ok : ∀ i c, rs[i]? = some c → OkAt rs i c
open Classical in
noncomputable def rightB (rs : List Crs) : Bool := decide (RightC rs)
theorem rightB_yes {rs : List Crs} (h : RightC rs) : rightB rs = true := by simp [rightB, h]
theorem rightB_no {rs : List Crs} (h : ¬ RightC rs) : rightB rs = false := by simp [rightB, h]
theorem rightB_iff {rs : List Crs} : rightB rs = true ↔ RightC rs := by simp [rightB]
theorem rise_all {rs : List Crs} : ∀ {k : Nat}, (∀ i c, i ≤ k → rs[i]? = some c → OkAt rs i c) → ∀ i d c, i < k → rs[i]? = some d → rs[k]? = some c → befB d c = true
  | 0, _, i, _, _, h, _, _ => by omega
  | k + 1, h, i, d, c, hi, hd, hc => by
    have hk : k < rs.length := by have := (List.getElem?_eq_some_iff.1 hc).1; omega
    have e := List.getElem?_eq_getElem hk
    have h1 := (h (k + 1) c (Nat.le_refl _) hc).rise rs[k] (by omega) e
    rcases Nat.lt_or_ge i k with g | g
    · exact befB_trans (rise_all (fun i c hi => h i c (by omega)) i d rs[k] g hd e) h1
    · obtain rfl : i = k := by omega
      rw [hd] at e
      cases e
      exact h1
theorem crsB_sizes {c : Crs} (h : crsB c = true) : c.partner.size ≤ 12 ∧ c.theirs.size ≤ 12 ∧ c.own.size ≤ 12 := by
  simp only [crsB, nameB, Bool.and_eq_true, decide_eq_true_eq] at h
  omega
theorem RightC.pair {rs : List Crs} (h : RightC rs) : rs.Pairwise fun a b => befB a b = true := by
  rw [List.pairwise_iff_getElem]
  intro i j hi hj hij
  exact rise_all (k := j) (fun i c _ hc => h.ok i c hc) i _ _ hij (List.getElem?_eq_getElem hi) (List.getElem?_eq_getElem hj)
/-- The one of that key. -/
def atK (kf : Crs → ByteArray × ByteArray) (k : ByteArray × ByteArray) (rs : List Crs) : Option Crs := rs.find? fun c => decide (kf c = k)
theorem atK_some {kf : Crs → ByteArray × ByteArray} {rs : List Crs} (h : rs.Pairwise fun a b => kf a ≠ kf b) {c : Crs} (hc : c ∈ rs) : atK kf (kf c) rs = some c := by
  induction rs with
  | nil => cases hc
  | cons d r ih =>
    obtain ⟨h1, h2⟩ := List.pairwise_cons.1 h
    unfold atK
    rcases List.mem_cons.1 hc with rfl | hc
    · simp
    · rw [List.find?_cons_of_neg (by simpa using h1 c hc)]
      exact ih h2 hc
theorem atK_none {kf : Crs → ByteArray × ByteArray} {rs : List Crs} {k : ByteArray × ByteArray} (h : ∀ c ∈ rs, kf c ≠ k) : atK kf k rs = none := by
  unfold atK
  rw [List.find?_eq_none]
  intro c hc
  simpa using h c hc
theorem RightC.thPair {rs : List Crs} (h : RightC rs) : rs.Pairwise fun a b => thK a ≠ thK b := h.pair.imp fun hb => befB_key hb
theorem RightC.owPair {rs : List Crs} (h : RightC rs) : rs.Pairwise fun a b => owK a ≠ owK b := by
  rw [List.pairwise_iff_getElem]
  intro i j hi hj hij
  exact (h.ok j _ (List.getElem?_eq_getElem hj)).once i _ hij (List.getElem?_eq_getElem hi)
/-- What CrossOwn and CrossTheirs tell. -/
noncomputable def ownT (rs : List Crs) (p t : ByteArray) : ByteArray := if rightB rs = true ∧ p.size ≤ 20000 ∧ t.size ≤ 20000 then ((atK thK (p, t) rs).map (·.own)).getD t else ⟨#[]⟩
noncomputable def theirT (rs : List Crs) (p o : ByteArray) : ByteArray := if rightB rs = true ∧ p.size ≤ 20000 ∧ o.size ≤ 20000 then ((atK owK (p, o) rs).map (·.theirs)).getD o else ⟨#[]⟩
end Go.Proofs.YtkgkahlhekecmaaGreat
namespace Go.Proofs.YtkgkahlhekecmaaGreat
open Go.ChangeShapes Go.WideShapes Go.ChangeAt Go.RowKit
structure StOk (s : Stk) : Prop where
  n : nameB s.item = true
  h0 : 0 ≤ s.hand
  h1 : s.hand ≤ 1000000000
def befS (a b : Stk) : Bool := Op.bytesLess a.item.toList b.item.toList
/-- What is asked at place i. -/
structure OkS (rs : List Stk) (i : Nat) (c : Stk) : Prop where
  ok : StOk c
  rise : ∀ d, 0 < i → rs[i - 1]? = some d → befS d c = true
structure RightS (rs : List Stk) : Prop where
  len : rs.length ≤ 100
  at_ : ∀ i c, rs[i]? = some c → OkS rs i c
open Classical in
noncomputable def stsB (rs : List Stk) : Bool := decide (RightS rs)
theorem stsB_yes {rs : List Stk} (h : RightS rs) : stsB rs = true := by simp [stsB, h]
theorem stsB_no {rs : List Stk} (h : ¬ RightS rs) : stsB rs = false := by simp [stsB, h]
theorem stsB_iff {rs : List Stk} : stsB rs = true ↔ RightS rs := by simp [stsB]
theorem befS_trans {a b c : Stk} (h1 : befS a b = true) (h2 : befS b c = true) : befS a c = true := bl_trans h1 h2
theorem befS_irrefl (a : Stk) : befS a a = false := bl_irrefl _
theorem riseS_all {rs : List Stk} : ∀ {k : Nat}, (∀ i c, i ≤ k → rs[i]? = some c → OkS rs i c) → ∀ i d c, i < k → rs[i]? = some d → rs[k]? = some c → befS d c = true
  | 0, _, i, _, _, h, _, _ => by omega
  | k + 1, h, i, d, c, hi, hd, hc => by
    have hk : k < rs.length := by have := (List.getElem?_eq_some_iff.1 hc).1; omega
    have e := List.getElem?_eq_getElem hk
    have h1 := (h (k + 1) c (Nat.le_refl _) hc).rise rs[k] (by omega) e
    rcases Nat.lt_or_ge i k with g | g
    · exact befS_trans (riseS_all (fun i c hi => h i c (by omega)) i d rs[k] g hd e) h1
    · obtain rfl : i = k := by omega
      rw [hd] at e
      cases e
      exact h1
theorem RightS.pair {rs : List Stk} (h : RightS rs) : rs.Pairwise fun a b => befS a b = true := by
  rw [List.pairwise_iff_getElem]
  intro i j hi hj hij
  exact riseS_all (k := j) (fun i c _ hc => h.at_ i c hc) i _ _ hij (List.getElem?_eq_getElem hi) (List.getElem?_eq_getElem hj)
theorem RightS.ok {rs : List Stk} (h : RightS rs) : ∀ c ∈ rs, StOk c := fun c hc => by
  obtain ⟨i, hi⟩ := List.mem_iff_getElem?.1 hc
  exact (h.at_ i c hi).ok
theorem RightS.of_pair {rs : List Stk} (hl : rs.length ≤ 100) (ho : ∀ c ∈ rs, StOk c) (hp : rs.Pairwise fun a b => befS a b = true) : RightS rs := by
  rw [List.pairwise_iff_getElem] at hp
  refine ⟨hl, fun i c hc => ?_⟩
  obtain ⟨hi, e⟩ := List.getElem?_eq_some_iff.1 hc
  refine ⟨ho c (List.mem_of_getElem? hc), fun d h0 hd => ?_⟩
  obtain ⟨hi', e'⟩ := List.getElem?_eq_some_iff.1 hd
  have := hp (i - 1) i hi' hi (by omega)
  rwa [e, e'] at this
/-- A right book. -/
noncomputable def bkB (b : Bk) : Bool := stsB b.stocks && lnsB b.lines
theorem bkB_iff {b : Bk} : bkB b = true ↔ RightS b.stocks ∧ RightL b.lines := by simp [bkB, stsB_iff, lnsB_iff]
/-- The first of a name. -/
def findS (item : ByteArray) (rs : List Stk) : Option Stk := rs.find? fun s => s.item.toList == item.toList
noncomputable def handT (b : Bk) (item : ByteArray) : Int := if bkB b = true then ((findS item b.stocks).map Stk.hand).getD 0 else 0
/-- Is it a line of that Partner and that Item? -/
def ofB (p i : ByteArray) (l : OLn) : Bool := (l.item.toList == i.toList) && (p.toList.isEmpty || (l.partner.toList == p.toList))
def sumL (f : OLn → Int) : List OLn → Int
  | [] => 0
  | l :: r => f l + sumL f r
theorem sumL_app (f : OLn → Int) : ∀ a b : List OLn, sumL f (a ++ b) = sumL f a + sumL f b
  | [], b => by simp [sumL]
  | x :: r, b => by simp [sumL, sumL_app f r b]; omega
noncomputable def sumT (f : OLn → Int) (b : Bk) (p i : ByteArray) : Int := if bkB b = true then sumL f (b.lines.filter (ofB p i)) else 0
theorem sumL_bound {f : OLn → Int} {m : Int} (hm : 0 ≤ m) : ∀ {ls : List OLn}, (∀ l ∈ ls, 0 ≤ f l ∧ f l ≤ m) → 0 ≤ sumL f ls ∧ sumL f ls ≤ m * (ls.length : Int)
  | [], _ => by simp [sumL]
  | l :: r, h => by
    have h1 := h l (by simp)
    have h2 := sumL_bound hm (ls := r) fun x hx => h x (by simp [hx])
    simp only [sumL, List.length_cons]
    have : m * ((r.length + 1 : Nat) : Int) = m * (r.length : Int) + m := by
      rw [Int.natCast_add, Int.mul_add]; simp
    omega
theorem opnT_bound (l : OLn) : 0 ≤ opnT l ∧ opnT l ≤ 1000000 := by
  by_cases h : LnOk l
  · rw [opnT_yes h]
    have := h.o2; have := h.s0; have := h.c0; have := h.co; have := h.so
    omega
  · rw [opnT_no h]; omega
theorem trnT_bound (l : OLn) : 0 ≤ trnT l ∧ trnT l ≤ 1000000 := by
  by_cases h : LnOk l
  · rw [trnT_yes h]
    have := h.o2; have := h.g0; have := h.gs; have := h.so
    omega
  · rw [trnT_no h]; omega
end Go.Proofs.YtkgkahlhekecmaaGreat
namespace Go.Proofs.YtkgkahlhekecmaaGreat
open Go.ChangeShapes Go.WideShapes Go.ChangeAt Go.RowKit
/-- One of rising Partners, at its place. -/
structure OkP (ps : List Ptn) (k : Nat) (p : Ptn) : Prop where
  ok : ptnB p = true
  rise : ∀ d, 0 < k → ps[k - 1]? = some d → Op.bytesLess d.name.toList p.name.toList = true
structure RightP (ps : List Ptn) : Prop where
  len : ps.length ≤ 20
  at_ : ∀ i p, ps[i]? = some p → OkP ps i p
open Classical in
noncomputable def ptsB (ps : List Ptn) : Bool := decide (RightP ps)
theorem ptsB_yes {ps : List Ptn} (h : RightP ps) : ptsB ps = true := by simp [ptsB, h]
theorem ptsB_no {ps : List Ptn} (h : ¬ RightP ps) : ptsB ps = false := by simp [ptsB, h]
theorem ptsB_iff {ps : List Ptn} : ptsB ps = true ↔ RightP ps := by simp [ptsB]
theorem ptnB_name {p : Ptn} (h : ptnB p = true) : nameB p.name = true := by
  simp only [ptnB, Bool.and_eq_true] at h
  exact h.1
def dfB (g : Gat) : Bool := decide (g.dffs.length ≤ 200)
noncomputable def gtB (g : Gat) : Bool := nameB g.name && (dayB g.day && (ptsB g.ptns && (rightB g.crss && (bkB g.book && (dfB g && ousB g.outs)))))
theorem bl_firstG {t : ByteArray} (h : nameB t = true) : Op.bytesLess (ByteArray.toList ⟨#[]⟩) t.toList = true := by
  have h1 := (nameB_sizes h).1
  cases hl : t.data.toList with
  | nil =>
    have : t.data.toList.length = 0 := by rw [hl]; rfl
    have e : t.size = t.data.toList.length := by simp
    omega
  | cons x r => rw [ByteArray.toList_eq, ByteArray.toList_eq, hl]; rfl
theorem bl_neG {a b : List UInt8} (h : Op.bytesLess a b = true) : (b == a) = false := by
  cases e : b == a with
  | false => rfl
  | true =>
    rw [beq_iff_eq] at e
    rw [e, bl_irrefl] at h
    cases h
theorem ptp_lt {rs : List Ptn} {k : Nat} {c : Ptn} {s : ByteArray} (h : OkP rs k c) (hk : k ≤ rs.length) (h0 : k = 0 → s = ⟨#[]⟩) (h1 : ∀ d, 0 < k → rs[k - 1]? = some d → d.name = s) : Op.bytesLess s.toList c.name.toList = true := by
  rcases Nat.eq_zero_or_pos k with g | g
  · rw [h0 g]
    exact bl_firstG (ptnB_name h.ok)
  · have e := List.getElem?_eq_getElem (l := rs) (i := k - 1) (by omega)
    have := h.rise _ g e
    rw [← h1 _ g e]
    exact this
theorem ptp_ok {rs : List Ptn} {k : Nat} {c : Ptn} {s : ByteArray} (ho : ptnB c = true) (hx : Op.bytesLess c.name.toList s.toList = false) (hy : (c.name.toList == s.toList) = false) (h1 : ∀ d, 0 < k → rs[k - 1]? = some d → d.name = s) : OkP rs k c := by
  refine ⟨ho, fun d h0 hd => ?_⟩
  rw [h1 d h0 hd]
  cases e : Op.bytesLess s.toList c.name.toList with
  | true => rfl
  | false =>
    have := bl_tri hx e
    rw [this] at hy
    simp at hy
end Go.Proofs.YtkgkahlhekecmaaGreat
namespace Go.Proofs.YtkgkahlhekecmaaGreat
open Go.ChangeShapes Go.WideShapes Go.ChangeAt Go.RowKit
open Go.Lib (compareBytes)
/-- How a partner's name stands to a text. -/
def cmpP (p : Ptn) (t : ByteArray) : Int := compareBytes p.name.data.toList t.data.toList
def befT (p : Ptn) (t : ByteArray) : Bool := Op.bytesLess p.name.toList t.toList
theorem cmpP_neg (p : Ptn) (t : ByteArray) : cmpP p t < 0 ↔ befT p t = true := by unfold cmpP befT; rw [cb_neg, ByteArray.toList_eq, ByteArray.toList_eq]
theorem cmpP_zero (p : Ptn) (t : ByteArray) : cmpP p t = 0 ↔ p.name.toList = t.toList := by unfold cmpP; rw [cb_zero, ByteArray.toList_eq, ByteArray.toList_eq]
/-- Where a partner of that name stands or would stand. -/
def plcP (ps : List Ptn) (t : ByteArray) : Nat := ps.countP fun p => befT p t
/-- Rising names. -/
def RisP (ps : List Ptn) : Prop := ps.Pairwise fun a b => Op.bytesLess a.name.toList b.name.toList = true
theorem RightP.ris {ps : List Ptn} (h : RightP ps) : RisP ps := by
  have key : ∀ (k : Nat) (i : Nat) (d c : Ptn), i < k → ps[i]? = some d → ps[k]? = some c → Op.bytesLess d.name.toList c.name.toList = true := by
    intro k
    induction k with
    | zero => intro i d c hi; omega
    | succ k ih =>
      intro i d c hi hd hc
      have hk : k < ps.length := by have := (List.getElem?_eq_some_iff.1 hc).1; omega
      have e := List.getElem?_eq_getElem hk
      have h1 := (h.at_ (k + 1) c hc).rise ps[k] (by omega) e
      rcases Nat.lt_or_ge i k with g | g
      · exact bl_trans (ih i d ps[k] g hd e) h1
      · obtain rfl : i = k := by omega
        rw [hd] at e
        cases e
        exact h1
  unfold RisP
  rw [List.pairwise_iff_getElem]
  intro i j hi hj hij
  exact key j i _ _ hij (List.getElem?_eq_getElem hi) (List.getElem?_eq_getElem hj)
theorem sorted_P {ps : List Ptn} (hs : RisP ps) {t : ByteArray} {i j : Nat} {x y : Ptn} (hij : i ≤ j) (hx : ps[i]? = some x) (hy : ps[j]? = some y) (h : cmpP y t < 0) : cmpP x t < 0 := by
  rcases Nat.lt_or_ge i j with g | g
  · have hs' := hs
    unfold RisP at hs'
    rw [List.pairwise_iff_getElem] at hs'
    obtain ⟨hi, e1⟩ := List.getElem?_eq_some_iff.1 hx
    obtain ⟨hj, e2⟩ := List.getElem?_eq_some_iff.1 hy
    have := hs' i j hi hj g
    rw [e1, e2] at this
    rw [cmpP_neg] at h ⊢
    exact bl_trans this h
  · obtain rfl : i = j := by omega
    rw [hx] at hy
    cases hy
    exact h
theorem cnt_atP {α : Type} (p : α → Bool) : ∀ (l : List α) (i : Nat), i ≤ l.length → (∀ j x, j < i → l[j]? = some x → p x = true) → (∀ j x, i ≤ j → l[j]? = some x → p x = false) → l.countP p = i
  | [], i, hi, _, _ => by simp at hi; simp [hi]
  | a :: r, 0, _, _, h2 => by
    rw [List.countP_eq_zero]
    intro x hx
    obtain ⟨j, hj⟩ := List.mem_iff_getElem?.1 hx
    simp [h2 j x (Nat.zero_le _) hj]
  | a :: r, i + 1, hi, h1, h2 => by
    have ha : p a = true := h1 0 a (Nat.succ_pos _) rfl
    rw [List.countP_cons_of_pos ha, cnt_atP p r i (by simpa using hi) (fun j x hj hx => h1 (j + 1) x (by omega) (by simpa using hx)) (fun j x hj hx => h2 (j + 1) x (by omega) (by simpa using hx))]
theorem namedP_any (p : Ptn) (u : Value) (t : ByteArray) (w : World) : Calls Tryz.prog 114 #[.agg #[.string p.name, .int .i64 p.low, .int .i64 p.next, u], .string t] w fun e w' => e = .returned (.int .i64 (cmpP p t)) ∧ Below w.heap.size w w' := by
  have HB : Hid (∀ o, Below w.heap.size w (w.alloc o)) := fun o => (Below.refl _ _).alloc (Nat.le_refl _) o
  go_enter Tryz.func114, Tryz.ntmps114
  go_wp2_with (go_at_call 115; refine (compare_any _ _ _).mono ?_; rintro e w' ⟨rfl, rfl⟩)
  go_ret
  exact ⟨rfl, HB.out _⟩
set_option maxHeartbeats 8000000 in
set_option maxRecDepth 100000 in
theorem searchP_any (v : Value) (ps : List Ptn) (t : ByteArray) (w : World) (h : RowPt w v ps) (hl : ps.length ≤ 1000) (hs : RisP ps) :
    Calls Tryz.prog 113 #[v, .string t, .func (.func 114) #[] #[]] w fun e w' => e = .returned (.tuple #[.int .i64 (plcP ps t : Nat), .bool ((ps[plcP ps t]?).any fun x => decide (cmpP x t = 0))]) ∧ Below w.heap.size w w' := by
  obtain ⟨A, Cp, rfl⟩ := h.val
  have H0 : Hid (RowPt w (.slice A ps.length Cp) ps) := h
  have HS : Hid (RisP ps) := hs
  clear h hs
  go_enter Tryz.func113, Tryz.ntmps113
  go_wp2_with fail
  go_loopw [9, 10] (fun s9 s10 wr => ∃ lo hi : Nat, s9 = .int .i64 (lo : Int) ∧ s10 = .int .i64 (hi : Int) ∧ lo ≤ hi ∧ hi ≤ ps.length ∧ Below w.heap.size w wr ∧ (∀ i x, i < lo → ps[i]? = some x → cmpP x t < 0) ∧ (∀ i x, hi ≤ i → ps[i]? = some x → 0 ≤ cmpP x t)) (fun s9 s10 _ => (RowKit.intOf s10).toNat - (RowKit.intOf s9).toNat)
  case atStart => exact ⟨0, ps.length, rfl, rfl, by omega, by omega, Below.refl _ _, fun i x hi => by omega, fun i x hi hx => by have := (List.getElem?_eq_some_iff.1 hx).1; omega⟩
  case round =>
    obtain ⟨lo, hi, rfl, rfl, hlh, hin, hb, h1, h2⟩ := hrel
    have HI : Hid (Below w.heap.size w wr ∧ (∀ i x, i < lo → ps[i]? = some x → cmpP x t < 0) ∧ (∀ i x, hi ≤ i → ps[i]? = some x → 0 ≤ cmpP x t)) := ⟨hb, h1, h2⟩
    clear hb h1 h2
    by_cases hlt : lo < hi
    · have hlt' : (lo : Int) < (hi : Int) := by omega
      obtain ⟨m, hm⟩ : ∃ m, m = (lo + hi) / 2 := ⟨_, rfl⟩
      obtain ⟨b, o, cap', p, u, e, hs, ⟨q0, q1, q2, q3⟩, hR⟩ := (H0.out.below HI.out.1).at (k := m) (by omega)
      simp only [Value.slice.injEq, true_and] at e
      obtain ⟨rfl, rfl⟩ := e
      obtain ⟨n0, c0, rfl⟩ := hR.ls.val
      have Q := namedP_any p (.slice n0 p.seen.length c0) t
      obtain ⟨z, hz⟩ : ∃ z, z = cmpP p t := ⟨_, rfl⟩
      rw [← hz] at Q
      have HX : Hid (ps[m]? = some p ∧ z = cmpP p t) := ⟨hs, hz⟩
      have hmI : ((lo : Int) + (hi : Int)) / 2 = (m : Int) := by omega
      have HM : Hid (((lo : Int) + (hi : Int)) / 2 = (m : Int)) := hmI
      have hm1 : lo ≤ m := by omega
      have hm2 : m < hi := by omega
      have hm3 : (m : Int) < (ps.length : Int) := by omega
      clear hs hz hmI hm hR
      go_upto_region 5 with fail
      rw [HM.out]
      go_wp2_with fail
      refine (Q _).mono ?_
      rintro e w5 ⟨rfl, hb5⟩
      have H5 : Hid (Below w.heap.size w w5) := HI.out.1.trans (hb5.mono HI.out.1.size)
      clear hb5 q0 q1 q2 q3 Q
      by_cases hzn : z < 0
      · go_wp2
        go_roundw
        case rel =>
          refine ⟨m + 1, hi, by go_num, rfl, by omega, by omega, H5.out, fun i y hi2 hy => ?_, HI.out.2.2⟩
          exact sorted_P HS.out (show i ≤ m by omega) hy HX.out.1 (by rw [← HX.out.2]; exact hzn)
        case measure => simp [RowKit.intOf]; omega
      · go_wp2
        go_roundw
        case rel =>
          refine ⟨lo, m, rfl, by go_num, by omega, by omega, H5.out, HI.out.2.1, fun i y hi2 hy => ?_⟩
          refine Int.not_lt.1 fun hneg => ?_
          have hz2 := sorted_P HS.out hi2 HX.out.1 hy hneg
          rw [← HX.out.2] at hz2
          omega
        case measure => simp [RowKit.intOf]; omega
    · obtain rfl : lo = hi := by omega
      have HP : Hid (plcP ps t = lo) := cnt_atP _ ps lo (by omega) (fun j x hj hx => (cmpP_neg x t).1 (HI.out.2.1 j x hj hx)) (fun j x hj hx => by
        have h3 := HI.out.2.2 j x hj hx
        cases hb : befT x t with
        | false => rfl
        | true => have := (cmpP_neg x t).2 hb; omega)
      by_cases hle : lo < ps.length
      · have hle' : (lo : Int) < (ps.length : Int) := by omega
        obtain ⟨b, o, cap', p, u, e, hs, ⟨q0, q1, q2, q3⟩, hR⟩ := (H0.out.below HI.out.1).at (k := lo) (by omega)
        simp only [Value.slice.injEq, true_and] at e
        obtain ⟨rfl, rfl⟩ := e
        obtain ⟨n0, c0, rfl⟩ := hR.ls.val
        have Q := namedP_any p (.slice n0 p.seen.length c0) t
        obtain ⟨z, hz⟩ : ∃ z, z = cmpP p t := ⟨_, rfl⟩
        rw [← hz] at Q
        have HX : Hid (ps[lo]? = some p ∧ z = cmpP p t) := ⟨hs, hz⟩
        clear hs hz hR
        go_wp2_with fail
        refine (Q _).mono ?_
        rintro e w5 ⟨rfl, hb5⟩
        have H5 : Hid (Below w.heap.size w w5) := HI.out.1.trans (hb5.mono HI.out.1.size)
        clear hb5 q0 q1 q2 q3 Q
        go_wp2
        have hpp := HP.out
        refine bodyPost_ret (v := .tuple #[.int .i64 (lo : Int), .bool (decide (z = 0))]) (by simp [results, Tryz.results113, go_sem]; rfl) rfl ⟨?_, H5.out⟩
        rw [hpp, HX.out.1, Option.any_some, ← HX.out.2]
      · obtain rfl : lo = ps.length := by omega
        have dl : decide ((ps.length : Int) < (ps.length : Int)) = false := by simp
        go_wp2
        have hpp := HP.out
        refine bodyPost_ret (v := .tuple #[.int .i64 (ps.length : Int), .bool false]) (by simp [results, Tryz.results113, go_sem]) rfl ⟨?_, HI.out.1⟩
        rw [hpp, List.getElem?_eq_none (Nat.le_refl _)]
        rfl
theorem placeOf_any (v : Value) (ps : List Ptn) (t : ByteArray) (w : World) (h : RowPt w v ps) (hl : ps.length ≤ 1000) (hs : RisP ps) :
    Calls Tryz.prog 70 #[v, .string t] w fun e w' => e = .returned (.tuple #[.int .i64 (plcP ps t : Nat), .bool ((ps[plcP ps t]?).any fun x => decide (cmpP x t = 0))]) ∧ Below w.heap.size w w' := by
  obtain ⟨A, Cp, rfl⟩ := h.val
  have Q := searchP_any (.slice A ps.length Cp) ps t w h hl hs
  clear h
  obtain ⟨n, hn⟩ : ∃ n : Int, n = ((plcP ps t : Nat) : Int) := ⟨_, rfl⟩
  obtain ⟨f, hf⟩ : ∃ f, f = ((ps[plcP ps t]?).any fun x => decide (cmpP x t = 0)) := ⟨_, rfl⟩
  rw [← hn, ← hf] at Q ⊢
  clear hn hf
  go_enter Tryz.func70, Tryz.ntmps70
  go_wp2_with fail
  refine Q.mono ?_
  rintro e w1 ⟨rfl, hb⟩
  have HB : Hid (Below w.heap.size w w1) := hb
  clear hb Q
  go_wp2
  exact bodyPost_ret (v := .tuple #[.int .i64 n, .bool f]) (by simp [results, Tryz.results70, go_sem]) rfl ⟨rfl, HB.out⟩
end Go.Proofs.YtkgkahlhekecmaaGreat
