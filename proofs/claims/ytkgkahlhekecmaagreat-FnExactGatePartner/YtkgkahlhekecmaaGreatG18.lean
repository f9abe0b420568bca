/- Texts of ours put together: CtlB, BlP, OuP, OuI. -/
import Derived.Test.YtkgkahlhekecmaaGreatG00
import Derived.Lib.Bytealg
import Derived.Test.YtkgkahlhekecmaaGreatG01
import Derived.Test.YtkgkahlhekecmaaGreatG17
import Derived.Shelf.RegionOpen
import Derived.Deep.QuietTactic
import Derived.BigQuiet
import Derived.BigRegion
import Derived.Deep.RegionHeld3
import Derived.Shelf.SlSortCmp.QuietGrown
namespace Go.Proofs.YtkgkahlhekecmaaGreat
open Go.ChangeShapes Go.WideShapes Go.ChangeAt Go.RowKit
def ctlB (n : Int) : Bool := decide (1 ≤ n) && decide (n ≤ 999999)
theorem ctlB_iff {n : Int} : ctlB n = true ↔ 1 ≤ n ∧ n ≤ 999999 := by simp [ctlB]
theorem isControl_any (n : Int) (w : World) : Calls Tryz.prog 127 #[.int .i64 n] w fun e w' => e = .returned (.bool (ctlB n)) ∧ w' = w := by
  by_cases h1 : 1 ≤ n
  · by_cases h2 : n ≤ 999999
    · go_enter Tryz.func127, Tryz.ntmps127
      go_wp2
      go_ret
      exact ⟨ret_bool (by simp [ctlB, h1, h2]), rfl⟩
    · go_enter Tryz.func127, Tryz.ntmps127
      go_wp2
      go_ret
      exact ⟨ret_bool (by simp [ctlB, h1, h2]), rfl⟩
  · go_enter Tryz.func127, Tryz.ntmps127
    go_wp2
    go_ret
    exact ⟨ret_bool (by simp [ctlB]; omega), rfl⟩
theorem l01Control_any (n : Int) (w : World) : Calls Tryz.prog 95 #[.int .i64 n] w fun e w' => e = .returned (.bool (ctlB n)) ∧ w' = w := by
  by_cases h1 : 1 ≤ n
  · by_cases h2 : n ≤ 999999
    · go_enter Tryz.func95, Tryz.ntmps95
      go_wp2
      go_ret
      exact ⟨ret_bool (by simp [ctlB, h1, h2]), rfl⟩
    · go_enter Tryz.func95, Tryz.ntmps95
      go_wp2
      go_ret
      exact ⟨ret_bool (by simp [ctlB, h1, h2]), rfl⟩
  · go_enter Tryz.func95, Tryz.ntmps95
    go_wp2
    go_ret
    exact ⟨ret_bool (by simp [ctlB]; omega), rfl⟩
end Go.Proofs.YtkgkahlhekecmaaGreat
namespace Go.Proofs.YtkgkahlhekecmaaGreat
open Go.RowKit
open Go.Lib (compareBytes)
theorem u8_lt (a b : UInt8) : a < b ↔ a.toNat < b.toNat := UInt8.lt_iff_toNat_lt
theorem u8_eq (a b : UInt8) (h : a.toNat = b.toNat) : a = b := UInt8.toNat_inj.1 h
theorem cb_zero : ∀ a b : List UInt8, compareBytes a b = 0 ↔ a = b
  | [], [] => by simp [compareBytes]
  | [], _ :: _ => by simp [compareBytes]
  | _ :: _, [] => by simp [compareBytes]
  | a :: xs, b :: ys => by
    simp only [compareBytes, u8_lt]
    rcases Nat.lt_trichotomy a.toNat b.toNat with h | h | h
    · rw [if_pos h]
      have : a ≠ b := fun e => by rw [e] at h; omega
      simp [this]
    · have e := u8_eq a b h
      subst e
      rw [if_neg (by omega), if_neg (by omega), cb_zero xs ys]
      simp
    · rw [if_neg (by omega), if_pos h]
      have : a ≠ b := fun e => by rw [e] at h; omega
      simp [this]
theorem cb_pos : ∀ a b : List UInt8, 0 < compareBytes a b ↔ Op.bytesLess b a = true
  | [], [] => by simp [compareBytes, Op.bytesLess]
  | [], _ :: _ => by simp [compareBytes, Op.bytesLess]
  | _ :: _, [] => by simp [compareBytes, Op.bytesLess]
  | a :: xs, b :: ys => by
    simp only [compareBytes, Op.bytesLess, Bool.or_eq_true, Bool.and_eq_true, decide_eq_true_eq, beq_iff_eq, u8_lt]
    rcases Nat.lt_trichotomy a.toNat b.toNat with h | h | h
    · rw [if_pos h]
      have : b ≠ a := fun e => by rw [e] at h; omega
      simp [this]
      omega
    · have e := u8_eq a b h
      subst e
      rw [if_neg (by omega), if_neg (by omega), cb_pos xs ys]
      simp
    · rw [if_neg (by omega), if_pos h]
      simp [h]
theorem bl_trans : ∀ {a b c : List UInt8}, Op.bytesLess a b = true → Op.bytesLess b c = true → Op.bytesLess a c = true
  | _, [], _, h, _ => by simp [Op.bytesLess] at h
  | _, _ :: _, [], _, h => by simp [Op.bytesLess] at h
  | [], _ :: _, _ :: _, _, _ => rfl
  | a :: xs, b :: ys, c :: zs, h1, h2 => by
    simp only [Op.bytesLess, Bool.or_eq_true, Bool.and_eq_true, decide_eq_true_eq, beq_iff_eq, u8_lt] at h1 h2 ⊢
    rcases h1 with h1 | ⟨rfl, h1⟩ <;> rcases h2 with h2 | ⟨rfl, h2⟩
    · exact .inl (by omega)
    · exact .inl h1
    · exact .inl h2
    · exact .inr ⟨rfl, bl_trans h1 h2⟩
theorem bl_irrefl : ∀ a : List UInt8, Op.bytesLess a a = false
  | [] => rfl
  | a :: xs => by simp [Op.bytesLess, bl_irrefl xs]
theorem cb_neg : ∀ a b : List UInt8, compareBytes a b < 0 ↔ Op.bytesLess a b = true
  | [], [] => by simp [compareBytes, Op.bytesLess]
  | [], _ :: _ => by simp [compareBytes, Op.bytesLess]
  | _ :: _, [] => by simp [compareBytes, Op.bytesLess]
  | a :: xs, b :: ys => by
    simp only [compareBytes, Op.bytesLess, Bool.or_eq_true, Bool.and_eq_true, decide_eq_true_eq, beq_iff_eq, u8_lt]
    rcases Nat.lt_trichotomy a.toNat b.toNat with h | h | h
    · rw [if_pos h]
      simp [h]
    · have e := u8_eq a b h
      subst e
      rw [if_neg (by omega), if_neg (by omega), cb_neg xs ys]
      simp
    · rw [if_neg (by omega), if_pos h]
      have : a ≠ b := fun e => by rw [e] at h; omega
      simp [this]
      omega
theorem bl_asymm {a b : List UInt8} (h : Op.bytesLess a b = true) : Op.bytesLess b a = false := by
  cases e : Op.bytesLess b a with
  | false => rfl
  | true =>
    have := bl_trans h e
    rw [bl_irrefl] at this
    cases this
theorem bl_tri {a b : List UInt8} (h1 : Op.bytesLess a b = false) (h2 : Op.bytesLess b a = false) : a = b := by
  rw [← cb_zero]
  have h3 : ¬ compareBytes a b < 0 := fun g => by rw [cb_neg, h1] at g; cases g
  have h4 : ¬ 0 < compareBytes a b := fun g => by rw [cb_pos, h2] at g; cases g
  omega
end Go.Proofs.YtkgkahlhekecmaaGreat
namespace Go.Proofs.YtkgkahlhekecmaaGreat
open Go.ChangeShapes Go.WideShapes Go.ChangeAt Go.RowKit
open Go.Lib (compareBytes)
/-- A day. -/
def dayB (z : Int) : Bool := decide (0 ≤ z ∧ z ≤ 100000)
theorem dayB_yes {z : Int} (h : 0 ≤ z ∧ z ≤ 100000) : dayB z = true := decide_eq_true h
theorem dayB_no {z : Int} (h : ¬ (0 ≤ z ∧ z ≤ 100000)) : dayB z = false := decide_eq_false h
theorem dayB_iff {z : Int} : dayB z = true ↔ 0 ≤ z ∧ z ≤ 100000 := by simp [dayB]
/-- It could stand in an outbox. -/
structure OuOk (l : OutR) : Prop where
  p : nameB l.partner = true
  n : ctlB l.number = true
  t1 : 1 ≤ l.text.size
  t2 : l.text.size ≤ 20000
  r0 : 0 ≤ l.tries
  r5 : l.tries ≤ 5
  d : 0 ≤ l.due ∧ l.due ≤ 100000
open Classical in
noncomputable def ouB (l : OutR) : Bool := decide (OuOk l)
theorem ouB_yes {l : OutR} (h : OuOk l) : ouB l = true := by simp [ouB, h]
theorem ouB_no {l : OutR} (h : ¬ OuOk l) : ouB l = false := by simp [ouB, h]
theorem ouB_iff {l : OutR} : ouB l = true ↔ OuOk l := by simp [ouB]
theorem ouB_iff' {l : OutR} : ouB l = false ↔ ¬ OuOk l := by simp [ouB]
theorem nameB_sizesU {t : ByteArray} (h : nameB t = true) : 1 ≤ t.size ∧ t.size ≤ 12 := by
  simp only [nameB, Bool.and_eq_true, decide_eq_true_eq] at h
  exact h.1.1
/-- Ahead of: by Partner, then by Number. -/
def befO (a b : OutR) : Bool := Op.bytesLess a.partner.toList b.partner.toList || (a.partner.toList == b.partner.toList && decide (a.number < b.number))
theorem befO_trans {a b c : OutR} (h1 : befO a b = true) (h2 : befO b c = true) : befO a c = true := by
  simp only [befO, Bool.or_eq_true, Bool.and_eq_true, beq_iff_eq, decide_eq_true_eq] at h1 h2 ⊢
  rcases h1 with h1 | ⟨e1, h1⟩ <;> rcases h2 with h2 | ⟨e2, h2⟩
  · exact .inl (bl_trans h1 h2)
  · exact .inl (e2 ▸ h1)
  · exact .inl (e1 ▸ h2)
  · exact .inr ⟨e1.trans e2, by omega⟩
theorem befO_irrefl (a : OutR) : befO a a = false := by simp [befO, bl_irrefl]
theorem befO_asymm {a b : OutR} (h : befO a b = true) : befO b a = false := by
  cases e : befO b a with
  | false => rfl
  | true =>
    have := befO_trans h e
    rw [befO_irrefl] at this
    cases this
/-- The two that they are told apart by. -/
def keyO (l : OutR) : ByteArray × Int := (l.partner, l.number)
theorem ba_listU {a b : ByteArray} (h : a.toList = b.toList) : a = b := by
  rw [ByteArray.toList_eq, ByteArray.toList_eq] at h
  exact ByteArray.ext (Array.toList_inj.1 h)
theorem befO_tri {a b : OutR} (h1 : befO a b = false) (h2 : befO b a = false) : keyO a = keyO b := by
  simp only [befO, Bool.or_eq_false_iff, Bool.and_eq_false_iff, beq_eq_false_iff_ne, decide_eq_false_iff_not] at h1 h2
  have ep := bl_tri h1.1 h2.1
  have h1n := h1.2.resolve_left (by simp [ep])
  have h2n := h2.2.resolve_left (by simp [ep])
  have en : a.number = b.number := by omega
  simp [keyO, ba_listU ep, en]
theorem befO_key {a b : OutR} (h : befO a b = true) : keyO a ≠ keyO b := fun e => by
  simp only [keyO, Prod.mk.injEq] at e
  simp [befO, e.1, e.2, bl_irrefl] at h
theorem befO_congr {a b c d : OutR} (h1 : keyO a = keyO c) (h2 : keyO b = keyO d) : befO a b = befO c d := by
  simp only [keyO, Prod.mk.injEq] at h1 h2
  simp [befO, h1.1, h1.2, h2.1, h2.2]
def cmpZU (x y : Int) : Int := if x < y then -1 else if y < x then 1 else 0
def orZU (x y : Int) : Int := if x = 0 then y else x
/-- compare's own answer. -/
def ocmp (a b : OutR) : Int := orZU (compareBytes a.partner.data.toList b.partner.data.toList) (cmpZU a.number b.number)
theorem ocmp_neg (a b : OutR) : ocmp a b < 0 ↔ befO a b = true := by
  simp only [ocmp, orZU, befO, Bool.or_eq_true, Bool.and_eq_true, beq_iff_eq, decide_eq_true_eq, ByteArray.toList_eq]
  by_cases h : compareBytes a.partner.data.toList b.partner.data.toList = 0
  · rw [if_pos h]
    have e := (cb_zero _ _).1 h
    rw [e]
    simp only [bl_irrefl, Bool.false_eq_true, true_and, false_or, cmpZU]
    split
    · simp [*]
    · split <;> simp [*]
  · rw [if_neg h, cb_neg]
    have e : ¬ a.partner.data.toList = b.partner.data.toList := fun e => h ((cb_zero _ _).2 e)
    simp [e]
theorem ocmp_pos (a b : OutR) : 0 < ocmp a b ↔ befO b a = true := by
  simp only [ocmp, orZU, befO, Bool.or_eq_true, Bool.and_eq_true, beq_iff_eq, decide_eq_true_eq, ByteArray.toList_eq]
  by_cases h : compareBytes a.partner.data.toList b.partner.data.toList = 0
  · rw [if_pos h]
    have e := (cb_zero _ _).1 h
    rw [e]
    simp only [bl_irrefl, Bool.false_eq_true, true_and, false_or, cmpZU]
    split
    · simp; omega
    · split <;> simp [*]
  · rw [if_neg h, cb_pos]
    have e : ¬ b.partner.data.toList = a.partner.data.toList := fun e => h ((cb_zero _ _).2 e.symm)
    simp [e]
theorem ocmp_zero (a b : OutR) : ocmp a b = 0 ↔ keyO a = keyO b := by
  constructor
  · intro h
    refine befO_tri ?_ ?_
    · rw [← Bool.not_eq_true, ← ocmp_neg]; omega
    · rw [← Bool.not_eq_true, ← ocmp_pos]; omega
  · intro h
    have h1 : ¬ ocmp a b < 0 := by rw [ocmp_neg]; intro g; exact befO_key g h
    have h2 : ¬ 0 < ocmp a b := by rw [ocmp_pos]; intro g; exact befO_key g h.symm
    omega
def zeroO : OutR := ⟨⟨#[]⟩, 0, ⟨#[]⟩, 0, 0⟩
theorem ocmp_first {c : OutR} (h : nameB c.partner = true) : 0 < ocmp c zeroO := by
  have h1 := (nameB_sizesU h).1
  rw [ocmp_pos]
  simp only [befO, zeroO, ByteArray.toList_eq, Bool.or_eq_true]
  refine .inl ?_
  cases hl : c.partner.data.toList with
  | nil =>
    have : c.partner.data.toList.length = 0 := by rw [hl]; rfl
    have e : c.partner.size = c.partner.data.toList.length := by simp
    omega
  | cons x r => simp [Op.bytesLess]
/-- What is asked at place i. -/
structure OkO (rs : List OutR) (i : Nat) (c : OutR) : Prop where
  ok : OuOk c
  rise : ∀ d, 0 < i → rs[i - 1]? = some d → befO d c = true
structure RightO (rs : List OutR) : Prop where
  len : rs.length ≤ 60
  at_ : ∀ i c, rs[i]? = some c → OkO rs i c
open Classical in
noncomputable def ousB (rs : List OutR) : Bool := decide (RightO rs)
theorem ousB_yes {rs : List OutR} (h : RightO rs) : ousB rs = true := by simp [ousB, h]
theorem ousB_no {rs : List OutR} (h : ¬ RightO rs) : ousB rs = false := by simp [ousB, h]
theorem ousB_iff {rs : List OutR} : ousB rs = true ↔ RightO rs := by simp [ousB]
theorem ousB_iff' {rs : List OutR} : ousB rs = false ↔ ¬ RightO rs := by simp [ousB]
theorem riseO_all {rs : List OutR} : ∀ {k : Nat}, (∀ i c, i ≤ k → rs[i]? = some c → OkO rs i c) → ∀ i d c, i < k → rs[i]? = some d → rs[k]? = some c → befO d c = true
  | 0, _, i, _, _, h, _, _ => by omega
  | k + 1, h, i, d, c, hi, hd, hc => by
    have hk : k < rs.length := by have := (List.getElem?_eq_some_iff.1 hc).1; omega
    have e := List.getElem?_eq_getElem hk
    have h1 := (h (k + 1) c (Nat.le_refl _) hc).rise rs[k] (by omega) e
    rcases Nat.lt_or_ge i k with g | g
    · exact befO_trans (riseO_all (fun i c hi => h i c (by omega)) i d rs[k] g hd e) h1
    · obtain rfl : i = k := by omega
      rw [hd] at e
      cases e
      exact h1
theorem RightO.pair {rs : List OutR} (h : RightO rs) : rs.Pairwise fun a b => befO a b = true := by
  rw [List.pairwise_iff_getElem]
  intro i j hi hj hij
  exact riseO_all (k := j) (fun i c _ hc => h.at_ i c hc) i _ _ hij (List.getElem?_eq_getElem hi) (List.getElem?_eq_getElem hj)
theorem RightO.ok {rs : List OutR} (h : RightO rs) : ∀ c ∈ rs, OuOk c := fun c hc => by
  obtain ⟨i, hi⟩ := List.mem_iff_getElem?.1 hc
  exact (h.at_ i c hi).ok
theorem RightO.of_pair {rs : List OutR} (hl : rs.length ≤ 60) (ho : ∀ c ∈ rs, OuOk c) (hp : rs.Pairwise fun a b => befO a b = true) : RightO rs := by
  rw [List.pairwise_iff_getElem] at hp
  refine ⟨hl, fun i c hc => ?_⟩
  obtain ⟨hi, e⟩ := List.getElem?_eq_some_iff.1 hc
  refine ⟨ho c (List.mem_of_getElem? hc), fun d h0 hd => ?_⟩
  obtain ⟨hi', e'⟩ := List.getElem?_eq_some_iff.1 hd
  have := hp (i - 1) i hi' hi (by omega)
  rwa [e, e'] at this
end Go.Proofs.YtkgkahlhekecmaaGreat
namespace Go.Proofs.YtkgkahlhekecmaaGreat
open Go.ChangeShapes Go.WideShapes Go.ChangeAt Go.RowKit
open Go.Lib (compareBytes)
open Go.Sort
theorem box5 {W : World} {b t : Nat} {x0 x1 x2 x3 x4 : Value} (h : W.heap[b]? = some (.cells #[x0, x1, x2, x3, x4] t)) : W.cell? ⟨b, 0, none⟩ = some x0 ∧ W.cell? ⟨b, 1, none⟩ = some x1 ∧ W.cell? ⟨b, 2, none⟩ = some x2 ∧ W.cell? ⟨b, 3, none⟩ = some x3 ∧ W.cell? ⟨b, 4, none⟩ = some x4 := by
  refine ⟨?_, ?_, ?_, ?_, ?_⟩ <;> simp [World.cell?, h]
theorem set5 {W : World} {b t : Nat} {x0 x1 x2 x3 x4 y0 y1 y2 y3 y4 : Value} (h : W.heap[b]? = some (.cells #[x0, x1, x2, x3, x4] t)) :
    (((((W.setCell ⟨b, 0, none⟩ y0).setCell ⟨b, 1, none⟩ y1).setCell ⟨b, 2, none⟩ y2).setCell ⟨b, 3, none⟩ y3).setCell ⟨b, 4, none⟩ y4).heap[b]? = some (.cells #[y0, y1, y2, y3, y4] t) := by
  simp [World.setCell, Array.getElem?_modify, h]
theorem ret_noU {p : Prop} [Decidable p] (h : ¬ p) : Ending.returned (.bool (decide p)) = .returned (.bool false) := by rw [decide_eq_false h]
theorem ret_yesU {p : Prop} [Decidable p] (h : p) : Ending.returned (.bool (decide p)) = .returned (.bool true) := by rw [decide_eq_true h]
/-- New blocks and draws alone. -/
def GrwU (w w' : World) : Prop := ∃ q os', w' = grow (w.drewN q) os'
theorem GrwU.one (w : World) (o : Obj) : GrwU w (w.alloc o) := ⟨0, #[o], rfl⟩
theorem GrwU.two (w : World) (o p : Obj) : GrwU w ((w.alloc o).alloc p) := ⟨0, #[o, p], rfl⟩
theorem GrwU.below {w w' : World} (h : GrwU w w') : Below w.heap.size w w' := by
  obtain ⟨q, os, rfl⟩ := h
  refine ⟨rfl, rfl, rfl, by simp [grow], fun i hi => ?_⟩
  have e : (grow (w.drewN q) os).heap = w.heap ++ os := rfl
  rw [e, Array.getElem?_append_left hi]
theorem isDay_any (z : Int) (w : World) : Calls Tryz.prog 62 #[.int .i64 z] w fun e w' => e = .returned (.bool (dayB z)) ∧ w' = w := by
  by_cases h1 : 0 ≤ z
  · by_cases h2 : z ≤ 100000
    · rw [dayB_yes ⟨h1, h2⟩]
      go_enter Tryz.func62, Tryz.ntmps62
      go_wp2
      go_ret
      exact ⟨by first | rfl | exact ret_yesU (p := z ≤ 100000) (by omega), rfl⟩
    · rw [dayB_no (by omega)]
      go_enter Tryz.func62, Tryz.ntmps62
      go_wp2
      go_ret
      exact ⟨by first | rfl | exact ret_noU (p := z ≤ 100000) (by omega), rfl⟩
  · rw [dayB_no (by omega)]
    go_enter Tryz.func62, Tryz.ntmps62
    go_wp2
    go_ret
    exact ⟨by first | rfl | exact ret_noU (p := z ≤ 100000) (by omega), rfl⟩
set_option maxHeartbeats 4000000 in
theorem right_grows (l : OutR) (w : World) (hz : l.text.size ≤ 9223372036854775807) : Calls Tryz.prog 103 #[.agg #[.string l.partner, .int .i64 l.number, .string l.text, .int .i64 l.tries, .int .i64 l.due]] w fun e w' => e = .returned (.bool (ouB l)) ∧ GrwU w w' := by
  obtain ⟨r, hr⟩ : ∃ r, r = ouB l := ⟨_, rfl⟩
  have HR : Hid (r = ouB l) := hr
  rw [← hr]
  clear hr
  obtain ⟨partner, number, text, tries, due⟩ := l
  dsimp only at hz ⊢
  have HB : Hid (∀ o, GrwU w (w.alloc o)) := fun o => .one w o
  have Q0 := isName_any partner
  have Q1 := isControl_any number
  have Q6 := isDay_any due
  cases h0 : nameB partner
  case false =>
    obtain rfl : r = false := by rw [HR.out]; exact ouB_no fun h => by have := h.p; dsimp only at this; rw [h0] at this; cases this
    rw [h0] at Q0
    go_enter Tryz.func103, Tryz.ntmps103
    go_wp2_with (first | (go_at_call 30; refine (Q0 _).mono ?_; rintro e w' ⟨rfl, rfl⟩) | (go_at_call 127; refine (Q1 _).mono ?_; rintro e w' ⟨rfl, rfl⟩) | (go_at_call 62; refine (Q6 _).mono ?_; rintro e w' ⟨rfl, rfl⟩))
    go_ret
    exact ⟨rfl, HB.out _⟩
  rw [h0] at Q0
  cases h1 : ctlB number
  case false =>
    obtain rfl : r = false := by rw [HR.out]; exact ouB_no fun h => by have := h.n; dsimp only at this; rw [h1] at this; cases this
    rw [h1] at Q1
    go_enter Tryz.func103, Tryz.ntmps103
    go_wp2_with (first | (go_at_call 30; refine (Q0 _).mono ?_; rintro e w' ⟨rfl, rfl⟩) | (go_at_call 127; refine (Q1 _).mono ?_; rintro e w' ⟨rfl, rfl⟩) | (go_at_call 62; refine (Q6 _).mono ?_; rintro e w' ⟨rfl, rfl⟩))
    go_ret
    exact ⟨rfl, HB.out _⟩
  rw [h1] at Q1
  by_cases h2 : 1 ≤ text.size
  case neg =>
    obtain rfl : r = false := by rw [HR.out]; exact ouB_no fun h => h2 h.t1
    have i2 : ¬ (1 : Int) ≤ (text.size : Int) := by omega
    go_enter Tryz.func103, Tryz.ntmps103
    go_wp2_with (first | (go_at_call 30; refine (Q0 _).mono ?_; rintro e w' ⟨rfl, rfl⟩) | (go_at_call 127; refine (Q1 _).mono ?_; rintro e w' ⟨rfl, rfl⟩) | (go_at_call 62; refine (Q6 _).mono ?_; rintro e w' ⟨rfl, rfl⟩))
    go_ret
    exact ⟨rfl, HB.out _⟩
  have i2 : (1 : Int) ≤ (text.size : Int) := by omega
  by_cases h3 : text.size ≤ 20000
  case neg =>
    obtain rfl : r = false := by rw [HR.out]; exact ouB_no fun h => h3 h.t2
    have i3 : ¬ (text.size : Int) ≤ 20000 := by omega
    go_enter Tryz.func103, Tryz.ntmps103
    go_wp2_with (first | (go_at_call 30; refine (Q0 _).mono ?_; rintro e w' ⟨rfl, rfl⟩) | (go_at_call 127; refine (Q1 _).mono ?_; rintro e w' ⟨rfl, rfl⟩) | (go_at_call 62; refine (Q6 _).mono ?_; rintro e w' ⟨rfl, rfl⟩))
    go_ret
    exact ⟨rfl, HB.out _⟩
  have i3 : (text.size : Int) ≤ 20000 := by omega
  by_cases h4 : 0 ≤ tries
  case neg =>
    obtain rfl : r = false := by rw [HR.out]; exact ouB_no fun h => h4 h.r0
    go_enter Tryz.func103, Tryz.ntmps103
    go_wp2_with (first | (go_at_call 30; refine (Q0 _).mono ?_; rintro e w' ⟨rfl, rfl⟩) | (go_at_call 127; refine (Q1 _).mono ?_; rintro e w' ⟨rfl, rfl⟩) | (go_at_call 62; refine (Q6 _).mono ?_; rintro e w' ⟨rfl, rfl⟩))
    go_ret
    exact ⟨rfl, HB.out _⟩
  by_cases h5 : tries ≤ 5
  case neg =>
    obtain rfl : r = false := by rw [HR.out]; exact ouB_no fun h => h5 h.r5
    go_enter Tryz.func103, Tryz.ntmps103
    go_wp2_with (first | (go_at_call 30; refine (Q0 _).mono ?_; rintro e w' ⟨rfl, rfl⟩) | (go_at_call 127; refine (Q1 _).mono ?_; rintro e w' ⟨rfl, rfl⟩) | (go_at_call 62; refine (Q6 _).mono ?_; rintro e w' ⟨rfl, rfl⟩))
    go_ret
    exact ⟨rfl, HB.out _⟩
  by_cases h6 : 0 ≤ due ∧ due ≤ 100000
  case neg =>
    obtain rfl : r = false := by rw [HR.out]; exact ouB_no fun h => h6 h.d
    rw [dayB_no h6] at Q6
    go_enter Tryz.func103, Tryz.ntmps103
    go_wp2_with (first | (go_at_call 30; refine (Q0 _).mono ?_; rintro e w' ⟨rfl, rfl⟩) | (go_at_call 127; refine (Q1 _).mono ?_; rintro e w' ⟨rfl, rfl⟩) | (go_at_call 62; refine (Q6 _).mono ?_; rintro e w' ⟨rfl, rfl⟩))
    go_ret
    exact ⟨rfl, HB.out _⟩
  rw [dayB_yes h6] at Q6
  obtain rfl : r = true := by rw [HR.out]; exact ouB_yes ⟨h0, h1, h2, h3, h4, h5, h6⟩
  clear h6
  go_enter Tryz.func103, Tryz.ntmps103
  go_wp2_with (first | (go_at_call 30; refine (Q0 _).mono ?_; rintro e w' ⟨rfl, rfl⟩) | (go_at_call 127; refine (Q1 _).mono ?_; rintro e w' ⟨rfl, rfl⟩) | (go_at_call 62; refine (Q6 _).mono ?_; rintro e w' ⟨rfl, rfl⟩))
  go_ret
  exact ⟨rfl, HB.out _⟩
theorem right_any (l : OutR) (w : World) (hz : l.text.size ≤ 9223372036854775807) : Calls Tryz.prog 103 #[.agg #[.string l.partner, .int .i64 l.number, .string l.text, .int .i64 l.tries, .int .i64 l.due]] w fun e w' => e = .returned (.bool (ouB l)) ∧ Below w.heap.size w w' := (right_grows l w hz).mono fun _ _ ⟨h1, h2⟩ => ⟨h1, h2.below⟩
end Go.Proofs.YtkgkahlhekecmaaGreat
