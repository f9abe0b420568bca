/- What it means that an order line, and a list of them, is right: pure. -/
import Derived.Test.YtppfobeencnbdaaRowOl
import Derived.Test.YtppfobeencnbdaaNameB
import Derived.Test.YtppfobeencnbdaaBlP
namespace Go.Proofs.Ytppfobeencnbdaa
open Go.ChangeShapes Go.WideShapes Go.ChangeAt Go.RowKit
open Go.Lib (compareBytes)
/-- A quantity. -/
def qtyB (z : Int) : Bool := decide (1 ≤ z ∧ z ≤ 1000000)
theorem qtyB_yes {z : Int} (h : 1 ≤ z ∧ z ≤ 1000000) : qtyB z = true := decide_eq_true h
theorem qtyB_no {z : Int} (h : ¬ (1 ≤ z ∧ z ≤ 1000000)) : qtyB z = false := decide_eq_false h
/-- A right line. -/
structure LnOk (l : OLn) : Prop where
  p : nameB l.partner = true
  r : nameB l.ref = true
  i : nameB l.item = true
  n1 : 1 ≤ l.no
  n2 : l.no ≤ 999
  o1 : 1 ≤ l.ordered
  o2 : l.ordered ≤ 1000000
  s0 : 0 ≤ l.sent
  g0 : 0 ≤ l.got
  c0 : 0 ≤ l.cut
  gs : l.got ≤ l.sent
  so : l.sent ≤ l.ordered
  co : l.cut ≤ l.ordered - l.sent
open Classical in
noncomputable def lnB (l : OLn) : Bool := decide (LnOk l)
theorem lnB_yes {l : OLn} (h : LnOk l) : lnB l = true := by simp [lnB, h]
theorem lnB_no {l : OLn} (h : ¬ LnOk l) : lnB l = false := by simp [lnB, h]
theorem lnB_iff {l : OLn} : lnB l = true ↔ LnOk l := by simp [lnB]
theorem lnB_iff' {l : OLn} : lnB l = false ↔ ¬ LnOk l := by simp [lnB]
/-- Its three texts are names, its No is one. -/
def nmdB (l : OLn) : Bool := nameB l.partner && (nameB l.ref && (nameB l.item && decide (1 ≤ l.no ∧ l.no ≤ 999)))
/-- Its numbers fit together. -/
def cntB (l : OLn) : Bool := decide (1 ≤ l.ordered ∧ l.ordered ≤ 1000000 ∧ 0 ≤ l.got ∧ l.got ≤ l.sent ∧ l.sent ≤ l.ordered ∧ 0 ≤ l.cut ∧ l.cut ≤ l.ordered - l.sent)
theorem lnB_split (l : OLn) : lnB l = (nmdB l && cntB l) := by
  cases h : (nmdB l && cntB l) with
  | true =>
    simp only [nmdB, cntB, Bool.and_eq_true, decide_eq_true_eq] at h
    obtain ⟨⟨h1, h2, h3, h4, h5⟩, h6, h7, h8, h9, h10, h11, h12⟩ := h
    exact lnB_yes ⟨h1, h2, h3, h4, h5, h6, h7, by omega, h8, h11, h9, h10, h12⟩
  | false =>
    refine lnB_no fun g => ?_
    have : (nmdB l && cntB l) = true := by
      simp only [nmdB, cntB, Bool.and_eq_true, decide_eq_true_eq]
      exact ⟨⟨g.p, g.r, g.i, g.n1, g.n2⟩, g.o1, g.o2, g.g0, g.gs, g.so, g.c0, g.co⟩
    rw [this] at h
    cases h
theorem nameB_sizes {t : ByteArray} (h : nameB t = true) : 1 ≤ t.size ∧ t.size ≤ 12 := by
  simp only [nameB, Bool.and_eq_true, decide_eq_true_eq] at h
  exact h.1.1
/-- Ahead of: by Partner, then by Ref, then by No. -/
def befL (a b : OLn) : Bool := Op.bytesLess a.partner.toList b.partner.toList || (a.partner.toList == b.partner.toList && (Op.bytesLess a.ref.toList b.ref.toList || (a.ref.toList == b.ref.toList && decide (a.no < b.no))))
theorem befL_trans {a b c : OLn} (h1 : befL a b = true) (h2 : befL b c = true) : befL a c = true := by
  simp only [befL, Bool.or_eq_true, Bool.and_eq_true, beq_iff_eq, decide_eq_true_eq] at h1 h2 ⊢
  rcases h1 with h1 | ⟨e1, h1⟩ <;> rcases h2 with h2 | ⟨e2, h2⟩
  · exact .inl (bl_trans h1 h2)
  · exact .inl (e2 ▸ h1)
  · exact .inl (e1 ▸ h2)
  · refine .inr ⟨e1.trans e2, ?_⟩
    rcases h1 with h1 | ⟨f1, h1⟩ <;> rcases h2 with h2 | ⟨f2, h2⟩
    · exact .inl (bl_trans h1 h2)
    · exact .inl (f2 ▸ h1)
    · exact .inl (f1 ▸ h2)
    · exact .inr ⟨f1.trans f2, by omega⟩
theorem befL_irrefl (a : OLn) : befL a a = false := by simp [befL, bl_irrefl]
theorem befL_asymm {a b : OLn} (h : befL a b = true) : befL b a = false := by
  cases e : befL b a with
  | false => rfl
  | true =>
    have := befL_trans h e
    rw [befL_irrefl] at this
    cases this
/-- The three that lines are told apart by. -/
def keyL (l : OLn) : ByteArray × ByteArray × Int := (l.partner, l.ref, l.no)
theorem ba_list {a b : ByteArray} (h : a.toList = b.toList) : a = b := by
  rw [ByteArray.toList_eq, ByteArray.toList_eq] at h
  exact ByteArray.ext (Array.toList_inj.1 h)
theorem befL_tri {a b : OLn} (h1 : befL a b = false) (h2 : befL b a = false) : keyL a = keyL b := by
  simp only [befL, Bool.or_eq_false_iff, Bool.and_eq_false_iff, beq_eq_false_iff_ne, decide_eq_false_iff_not] at h1 h2
  have ep := bl_tri h1.1 h2.1
  have h1' := h1.2.resolve_left (by simp [ep])
  have h2' := h2.2.resolve_left (by simp [ep])
  have er := bl_tri h1'.1 h2'.1
  have h1n := h1'.2.resolve_left (by simp [er])
  have h2n := h2'.2.resolve_left (by simp [er])
  have en : a.no = b.no := by omega
  simp [keyL, ba_list ep, ba_list er, en]
theorem befL_key {a b : OLn} (h : befL a b = true) : keyL a ≠ keyL b := fun e => by
  simp only [keyL, Prod.mk.injEq] at e
  simp [befL, e.1, e.2.1, e.2.2, bl_irrefl] at h
theorem befL_congr {a b c d : OLn} (h1 : keyL a = keyL c) (h2 : keyL b = keyL d) : befL a b = befL c d := by
  simp only [keyL, Prod.mk.injEq] at h1 h2
  simp [befL, h1.1, h1.2.1, h1.2.2, h2.1, h2.2.1, h2.2.2]
def cmpZ (x y : Int) : Int := if x < y then -1 else if y < x then 1 else 0
def orZ (x y : Int) : Int := if x = 0 then y else x
/-- compare's own answer. -/
def lcmp (a b : OLn) : Int := orZ (compareBytes a.partner.data.toList b.partner.data.toList) (orZ (compareBytes a.ref.data.toList b.ref.data.toList) (cmpZ a.no b.no))
theorem lcmp_neg (a b : OLn) : lcmp a b < 0 ↔ befL a b = true := by
  simp only [lcmp, orZ, befL, Bool.or_eq_true, Bool.and_eq_true, beq_iff_eq, decide_eq_true_eq, ByteArray.toList_eq]
  by_cases h : compareBytes a.partner.data.toList b.partner.data.toList = 0
  · rw [if_pos h]
    have e := (cb_zero _ _).1 h
    rw [e]
    simp only [bl_irrefl, Bool.false_eq_true, true_and, false_or]
    by_cases h2 : compareBytes a.ref.data.toList b.ref.data.toList = 0
    · rw [if_pos h2]
      have e2 := (cb_zero _ _).1 h2
      rw [e2]
      simp only [bl_irrefl, Bool.false_eq_true, true_and, false_or, cmpZ]
      split
      · simp [*]
      · split <;> simp [*]
    · rw [if_neg h2, cb_neg]
      have e2 : ¬ a.ref.data.toList = b.ref.data.toList := fun e => h2 ((cb_zero _ _).2 e)
      simp [e2]
  · rw [if_neg h, cb_neg]
    have e : ¬ a.partner.data.toList = b.partner.data.toList := fun e => h ((cb_zero _ _).2 e)
    simp [e]
theorem lcmp_pos (a b : OLn) : 0 < lcmp a b ↔ befL b a = true := by
  simp only [lcmp, orZ, befL, Bool.or_eq_true, Bool.and_eq_true, beq_iff_eq, decide_eq_true_eq, ByteArray.toList_eq]
  by_cases h : compareBytes a.partner.data.toList b.partner.data.toList = 0
  · rw [if_pos h]
    have e := (cb_zero _ _).1 h
    rw [e]
    simp only [bl_irrefl, Bool.false_eq_true, true_and, false_or]
    by_cases h2 : compareBytes a.ref.data.toList b.ref.data.toList = 0
    · rw [if_pos h2]
      have e2 := (cb_zero _ _).1 h2
      rw [e2]
      simp only [bl_irrefl, Bool.false_eq_true, true_and, false_or, cmpZ]
      split
      · simp; omega
      · split <;> simp [*]
    · rw [if_neg h2, cb_pos]
      have e2 : ¬ b.ref.data.toList = a.ref.data.toList := fun e => h2 ((cb_zero _ _).2 e.symm)
      simp [e2]
  · rw [if_neg h, cb_pos]
    have e : ¬ b.partner.data.toList = a.partner.data.toList := fun e => h ((cb_zero _ _).2 e.symm)
    simp [e]
theorem lcmp_zero (a b : OLn) : lcmp a b = 0 ↔ keyL a = keyL b := by
  constructor
  · intro h
    refine befL_tri ?_ ?_
    · rw [← Bool.not_eq_true, ← lcmp_neg]; omega
    · rw [← Bool.not_eq_true, ← lcmp_pos]; omega
  · intro h
    have h1 : ¬ lcmp a b < 0 := by rw [lcmp_neg]; intro g; exact befL_key g h
    have h2 : ¬ 0 < lcmp a b := by rw [lcmp_pos]; intro g; exact befL_key g h.symm
    omega
def zeroL : OLn := ⟨⟨#[]⟩, ⟨#[]⟩, 0, ⟨#[]⟩, 0, 0, 0, 0⟩
theorem lcmp_first {c : OLn} (h : nameB c.partner = true) : 0 < lcmp c zeroL := by
  have h1 := (nameB_sizes h).1
  rw [lcmp_pos]
  simp only [befL, zeroL, ByteArray.toList_eq, Bool.or_eq_true]
  refine .inl ?_
  cases hl : c.partner.data.toList with
  | nil =>
    have : c.partner.data.toList.length = 0 := by rw [hl]; rfl
    have e : c.partner.size = c.partner.data.toList.length := by simp
    omega
  | cons x r => simp [Op.bytesLess]
/-- What is asked at place i. -/
structure OkL (rs : List OLn) (i : Nat) (c : OLn) : Prop where
  ok : LnOk c
  rise : ∀ d, 0 < i → rs[i - 1]? = some d → befL d c = true
structure RightL (rs : List OLn) : Prop where
  len : rs.length ≤ 200
  at_ : ∀ i c, rs[i]? = some c → OkL rs i c
open Classical in
noncomputable def lnsB (rs : List OLn) : Bool := decide (RightL rs)
theorem lnsB_yes {rs : List OLn} (h : RightL rs) : lnsB rs = true := by simp [lnsB, h]
theorem lnsB_no {rs : List OLn} (h : ¬ RightL rs) : lnsB rs = false := by simp [lnsB, h]
theorem lnsB_iff {rs : List OLn} : lnsB rs = true ↔ RightL rs := by simp [lnsB]
theorem lnsB_iff' {rs : List OLn} : lnsB rs = false ↔ ¬ RightL rs := by simp [lnsB]
theorem riseL_all {rs : List OLn} : ∀ {k : Nat}, (∀ i c, i ≤ k → rs[i]? = some c → OkL rs i c) → ∀ i d c, i < k → rs[i]? = some d → rs[k]? = some c → befL d c = true
  | 0, _, i, _, _, h, _, _ => by omega
  | k + 1, h, i, d, c, hi, hd, hc => by
    have hk : k < rs.length := by have := (List.getElem?_eq_some_iff.1 hc).1; omega
    have e := List.getElem?_eq_getElem hk
    have h1 := (h (k + 1) c (Nat.le_refl _) hc).rise rs[k] (by omega) e
    rcases Nat.lt_or_ge i k with g | g
    · exact befL_trans (riseL_all (fun i c hi => h i c (by omega)) i d rs[k] g hd e) h1
    · obtain rfl : i = k := by omega
      rw [hd] at e
      cases e
      exact h1
theorem RightL.pair {rs : List OLn} (h : RightL rs) : rs.Pairwise fun a b => befL a b = true := by
  rw [List.pairwise_iff_getElem]
  intro i j hi hj hij
  exact riseL_all (k := j) (fun i c _ hc => h.at_ i c hc) i _ _ hij (List.getElem?_eq_getElem hi) (List.getElem?_eq_getElem hj)
theorem RightL.ok {rs : List OLn} (h : RightL rs) : ∀ c ∈ rs, LnOk c := fun c hc => by
  obtain ⟨i, hi⟩ := List.mem_iff_getElem?.1 hc
  exact (h.at_ i c hi).ok
theorem RightL.of_pair {rs : List OLn} (hl : rs.length ≤ 200) (ho : ∀ c ∈ rs, LnOk c) (hp : rs.Pairwise fun a b => befL a b = true) : RightL rs := by
  rw [List.pairwise_iff_getElem] at hp
  refine ⟨hl, fun i c hc => ?_⟩
  obtain ⟨hi, e⟩ := List.getElem?_eq_some_iff.1 hc
  refine ⟨ho c (List.mem_of_getElem? hc), fun d h0 hd => ?_⟩
  obtain ⟨hi', e'⟩ := List.getElem?_eq_some_iff.1 hd
  have := hp (i - 1) i hi' hi (by omega)
  rwa [e, e'] at this
/-- What is open of a line, and in transit. -/
noncomputable def opnT (l : OLn) : Int := if lnB l = true then l.ordered - l.sent - l.cut else 0
noncomputable def trnT (l : OLn) : Int := if lnB l = true then l.sent - l.got else 0
theorem opnT_yes {l : OLn} (h : LnOk l) : opnT l = l.ordered - l.sent - l.cut := if_pos (lnB_yes h)
theorem trnT_yes {l : OLn} (h : LnOk l) : trnT l = l.sent - l.got := if_pos (lnB_yes h)
theorem opnT_no {l : OLn} (h : ¬ LnOk l) : opnT l = 0 := if_neg (by simp [lnB_no h])
theorem trnT_no {l : OLn} (h : ¬ LnOk l) : trnT l = 0 := if_neg (by simp [lnB_no h])
end Go.Proofs.Ytppfobeencnbdaa
