/- What PartnerTake tells. -/
import Derived.Test.YtbnjieppcojckaaAskI
namespace Go.Proofs.Ytbnjieppcojckaa
open Go.ChangeShapes Go.WideShapes Go.ChangeAt Go.RowKit
def zeroPt : Ptn := ⟨⟨#[]⟩, 0, 0, []⟩
/-- What a taking tells: the partner behind it, the kind, the answer, the code. -/
structure Tk where
  p : Ptn
  kind : Int
  seen : Sn
  code : Int
def Tk.val (t : Tk) (v : Value) : Value := .agg #[.string t.p.name, .int .i64 t.p.low, .int .i64 t.p.next, v, .int .i64 t.kind, .int .i64 t.seen.number, .int .i64 t.seen.answer, .int .i64 t.seen.code, .int .i64 t.code]
/-- The partner behind a new number. -/
def newPt (p : Ptn) (k c : Int) : Ptn := ⟨p.name, max p.low (k - 31), p.next + 1, insSn ⟨k, p.next, c⟩ (p.seen.filter fun x => decide (k - 31 ≤ x.number))⟩
def takeT (p : Ptn) (k c : Int) : Tk :=
  if ptnB p && (ctlB k && codeB c) then
    if kndZ p.low p.seen k = 1 then
      if p.next = 999999 then ⟨zeroPt, 0, ⟨0, 0, 0⟩, 13⟩ else ⟨newPt p k c, 1, ⟨k, p.next, c⟩, 0⟩
    else ⟨p, kndZ p.low p.seen k, (p.seen.find? fun x => decide (x.number = k)).getD ⟨0, 0, 0⟩, 0⟩
  else ⟨zeroPt, 0, ⟨0, 0, 0⟩, 1⟩
theorem takeT_form {p : Ptn} {k c : Int} (h : (ptnB p && (ctlB k && codeB c)) = false) : takeT p k c = ⟨zeroPt, 0, ⟨0, 0, 0⟩, 1⟩ := by
  unfold takeT
  rw [h]
  rfl
theorem takeT_full {p : Ptn} {k c : Int} (h : (ptnB p && (ctlB k && codeB c)) = true) (h1 : kndZ p.low p.seen k = 1) (h2 : p.next = 999999) : takeT p k c = ⟨zeroPt, 0, ⟨0, 0, 0⟩, 13⟩ := by
  simp [takeT, h, h1, h2]
theorem takeT_new {p : Ptn} {k c : Int} (h : (ptnB p && (ctlB k && codeB c)) = true) (h1 : kndZ p.low p.seen k = 1) (h2 : p.next ≠ 999999) : takeT p k c = ⟨newPt p k c, 1, ⟨k, p.next, c⟩, 0⟩ := by
  simp [takeT, h, h1, h2]
theorem takeT_old {p : Ptn} {k c : Int} (h : (ptnB p && (ctlB k && codeB c)) = true) (h1 : kndZ p.low p.seen k ≠ 1) : takeT p k c = ⟨p, kndZ p.low p.seen k, (p.seen.find? fun x => decide (x.number = k)).getD ⟨0, 0, 0⟩, 0⟩ := by
  simp [takeT, h, h1]
theorem kndZ_new {low : Int} {l : List Sn} {k : Int} (h : kndZ low l k = 1) : ¬ k < low ∧ l.find? (fun x => decide (x.number = k)) = none := by
  unfold kndZ at h
  by_cases h1 : k < low
  · rw [if_pos h1] at h
    omega
  · rw [if_neg h1] at h
    refine ⟨h1, ?_⟩
    cases hf : l.find? (fun x => decide (x.number = k))
    · rfl
    · rw [hf] at h
      simp at h
theorem kndZ_cases (low : Int) (l : List Sn) (k : Int) : kndZ low l k = 1 ∨ kndZ low l k = 2 ∨ kndZ low l k = 3 := by
  unfold kndZ
  split
  · exact .inr (.inr rfl)
  · split
    · exact .inr (.inl rfl)
    · exact .inl rfl
theorem ins_mem {s x : Sn} : ∀ {l : List Sn}, x ∈ insSn s l ↔ x = s ∨ x ∈ l
  | [] => by simp [insSn]
  | y :: r => by
    unfold insSn
    split
    · simp
    · simp only [List.mem_cons, ins_mem (l := r)]
      constructor
      · rintro (h | h | h)
        · exact .inr (.inl h)
        · exact .inl h
        · exact .inr (.inr h)
      · rintro (h | h | h)
        · exact .inr (.inl h)
        · exact .inl h
        · exact .inr (.inr h)
theorem ins_len (s : Sn) : ∀ l : List Sn, (insSn s l).length = l.length + 1
  | [] => rfl
  | y :: r => by
    unfold insSn
    split
    · rfl
    · simp [ins_len s r]
theorem ins_rise {s : Sn} : ∀ {l : List Sn}, Rise l → (∀ x ∈ l, x.number ≠ s.number) → Rise (insSn s l)
  | [], _, _ => by simp [insSn, Rise]
  | y :: r, h, hn => by
    obtain ⟨h1, h2⟩ := List.pairwise_cons.1 h
    unfold insSn
    split
    · rename_i hlt
      refine List.pairwise_cons.2 ⟨fun x hx => ?_, h⟩
      rcases List.mem_cons.1 hx with rfl | hx
      · exact hlt
      · have := h1 x hx
        omega
    · rename_i hlt
      have hy := hn y (by simp)
      refine List.pairwise_cons.2 ⟨fun x hx => ?_, ins_rise h2 fun x hx => hn x (by simp [hx])⟩
      rcases ins_mem.1 hx with rfl | hx
      · omega
      · exact h1 x hx
theorem find_none {l : List Sn} {k : Int} (h : l.find? (fun x => decide (x.number = k)) = none) : ∀ x ∈ l, x.number ≠ k := by
  intro x hx
  have := List.find?_eq_none.1 h x hx
  simpa using this
/-- Of a right partner what a new number makes: its list rises, is not long, and its numbers are control numbers. -/
theorem newPt_facts {p : Ptn} {k c : Int} (hr : ptnB p = true) (hk : 1 ≤ k ∧ k ≤ 999999) (h : kndZ p.low p.seen k = 1) : Rise (newPt p k c).seen ∧ (newPt p k c).seen.length ≤ 33 ∧ (∀ x ∈ (newPt p k c).seen, 1 ≤ x.number ∧ x.number ≤ 999999) ∧ (∀ x ∈ p.seen, x.number ≠ k) := by
  obtain ⟨_, g1, g2, g3, g4, g5⟩ := ptnB_parts hr
  have hn := find_none (kndZ_new h).2
  refine ⟨ins_rise (g4.filter _) (fun x hx => hn x (List.mem_filter.1 hx).1), ?_, fun x hx => ?_, hn⟩
  · show (insSn _ _).length ≤ 33
    rw [ins_len]
    have := List.length_filter_le (fun x : Sn => decide (k - 31 ≤ x.number)) p.seen
    omega
  · rcases ins_mem.1 hx with rfl | hx
    · exact hk
    · have := g5 x (List.mem_filter.1 hx).1
      omega
end Go.Proofs.Ytbnjieppcojckaa
