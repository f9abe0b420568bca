/- The window's map: what it reads as is a list of what was seen, the numbers rising; looked up, put, taken out. -/
import Derived.Test.YtbnjieppcojckaaPnP
import Derived.Maps.RangeWalk
import Derived.Maps.Views
namespace Go.Proofs.Ytbnjieppcojckaa
open Go.ChangeShapes Go.WideShapes Go.ChangeAt Go.RowKit
open Go.Maps (Keyed)
def sv (s : Sn) : Value := .agg #[.int .i64 s.number, .int .i64 s.answer, .int .i64 s.code]
/-- How an element of the map reads. -/
def rdSn : Value → Option (DataW Sn × List MemPlace)
  | .agg ⟨[.int .i64 a, .int .i64 b, .int .i64 c]⟩ => some (.held ⟨a, b, c⟩, [])
  | _ => none
theorem rdSn_mk (s : Sn) : rdSn (sv s) = some (.held s, []) := rfl
theorem rdSn_inv {v : Value} {y : DataW Sn × List MemPlace} (h : rdSn v = some y) : ∃ s, v = sv s ∧ y = (.held s, []) := by
  unfold rdSn at h
  split at h
  · cases h
    exact ⟨⟨_, _, _⟩, rfl, rfl⟩
  · cases h
def snKey (s : Sn) : Lit × DataW Sn := (.int .i64 s.number, .held s)
def mapD (l : List Sn) : DataW Sn := .map (l.map snKey)
theorem i64_keyed : Keyed Try.prog 2 := Maps.int_keyed Try.underlying2
theorem i64_key {n : Int} (h : -9223372036854775808 ≤ n ∧ n ≤ 9223372036854775807) : keyOf Try.prog 2 (.int .i64 n) = some (.int .i64 n) :=
  Maps.keyOf_int_mk Try.underlying2 (by
    have h1 : IntKind.min .i64 = -9223372036854775808 := by decide
    have h2 : IntKind.max .i64 = 9223372036854775807 := by decide
    simp only [Lit.wf, h1, h2, Bool.and_eq_true, decide_eq_true_eq]
    exact h)
/-- Put in its place. -/
def insSn (s : Sn) : List Sn → List Sn
  | [] => [s]
  | y :: r => if s.number < y.number then s :: y :: r else y :: insSn s r
theorem ins_map (s : Sn) : ∀ l : List Sn, DataW.insert (snKey s) (l.map snKey) = (insSn s l).map snKey
  | [] => rfl
  | y :: r => by
    simp only [List.map_cons, DataW.insert, insSn]
    have hb : (snKey s).1.before (snKey y).1 = decide (s.number < y.number) := rfl
    rw [hb, ins_map s r]
    by_cases h : s.number < y.number <;> simp [h]
theorem same_key (a b : Int) : Lit.sameKey (.int .i64 a) (.int .i64 b) = decide (a = b) := by simp [Lit.sameKey]
theorem put_map (s : Sn) (l : List Sn) : (mapD l).put (.int .i64 s.number) (.held s) = mapD (insSn s (l.filter fun x => decide (x.number ≠ s.number))) := by
  have : (l.map snKey).filter (fun p => !p.1.sameKey (.int .i64 s.number)) = (l.filter fun x => decide (x.number ≠ s.number)).map snKey := by
    rw [List.filter_map]
    congr 1
    apply List.filter_congr
    intro x _
    simp [snKey, same_key]
  show DataW.map (DataW.insert (snKey s) ((l.map snKey).filter _)) = _
  rw [this, ins_map]
  rfl
theorem del_map (n : Int) (l : List Sn) : (mapD l).del (.int .i64 n) = mapD (l.filter fun x => decide (x.number ≠ n)) := by
  have : (l.map snKey).filter (fun p => !p.1.sameKey (.int .i64 n)) = (l.filter fun x => decide (x.number ≠ n)).map snKey := by
    rw [List.filter_map]
    congr 1
    apply List.filter_congr
    intro x _
    simp [snKey, same_key]
  show DataW.map ((l.map snKey).filter _) = _
  rw [this]
  rfl
theorem at_map (n : Int) (l : List Sn) (z : DataW Sn) : (mapD l).atKey (.int .i64 n) z = match l.find? (fun x => decide (x.number = n)) with | some s => .held s | none => z := by
  unfold mapD DataW.atKey
  dsimp only
  rw [List.find?_map]
  have : ((fun p : Lit × DataW Sn => p.1.sameKey (.int .i64 n)) ∘ snKey) = fun x => decide (x.number = n) := by
    funext x
    simp [snKey, same_key]
  rw [this]
  cases l.find? (fun x => decide (x.number = n)) <;> rfl
/-- Where all stand below it, it stands at the end. -/
theorem ins_last {s : Sn} : ∀ {l : List Sn}, (∀ x ∈ l, x.number < s.number) → insSn s (l.filter fun x => decide (x.number ≠ s.number)) = l ++ [s]
  | [], _ => rfl
  | y :: r, h => by
    have hy := h y (by simp)
    have e : decide (y.number ≠ s.number) = true := by simp; omega
    rw [List.filter_cons_of_pos (by simpa using e)]
    simp only [insSn]
    rw [if_neg (by omega), ins_last (fun x hx => h x (by simp [hx]))]
    rfl
/-- The numbers rise. -/
def Rise (l : List Sn) : Prop := l.Pairwise fun a b => a.number < b.number
theorem seenB_rise {low : Int} : ∀ {rs : List Sn} {least : Int}, seenB low least rs = true → Rise rs ∧ ∀ x ∈ rs, least ≤ x.number ∧ x.number < low + 32 ∧ x.number ≤ 999999 ∧ 1 ≤ x.answer ∧ x.answer ≤ 999999 ∧ 0 ≤ x.code ∧ x.code ≤ 13
  | [], _, _ => ⟨List.Pairwise.nil, fun x hx => by cases hx⟩
  | s :: r, least, h => by
    simp only [seenB, snB, Bool.and_eq_true, decide_eq_true_eq, ctlB, codeB] at h
    obtain ⟨h1, h2⟩ := seenB_rise h.2
    refine ⟨List.pairwise_cons.2 ⟨fun y hy => by have := (h2 y hy).1; omega, h1⟩, fun x hx => ?_⟩
    rcases List.mem_cons.1 hx with rfl | hx
    · omega
    · have := h2 x hx
      omega
theorem rise_find {l : List Sn} (h : Rise l) {s : Sn} (hs : s ∈ l) : l.find? (fun x => decide (x.number = s.number)) = some s := by
  induction l with
  | nil => cases hs
  | cons y r ih =>
    obtain ⟨h1, h2⟩ := List.pairwise_cons.1 h
    rcases List.mem_cons.1 hs with rfl | hs'
    · simp
    · have hlt := h1 s hs'
      rw [List.find?_cons_of_neg (by simp; omega)]
      exact ih h2 hs'
section
variable {w : World} {b n : Nat} {l : List Sn}
/-- Looked up, with and without 'ok': what stands there. -/
theorem look_some {s : Sn} (h : w.ownsMap Try.prog 2 rdSn b n (mapD l)) (hz : (zeroValue 34).run Try.prog w = .ok (sv ⟨0, 0, 0⟩) w) (hk : -9223372036854775808 ≤ s.number ∧ s.number ≤ 9223372036854775807) (hf : l.find? (fun x => decide (x.number = s.number)) = some s) (c : Bool) :
    (Instr.lookup 58 (.map (some b)) (.int .i64 s.number) c).run Try.prog w = .ok (if c then .tuple #[sv s, .bool true] else sv s) w := by
  obtain ⟨es, clock, hb, F, _, hD⟩ := h
  rcases Maps.fit_look c i64_keyed Try.underlying58 hz hb F (i64_key hk) with ⟨hrun, _, hat⟩ | ⟨e0, y, _, _, hrun, hR, hat, _⟩
  · have := hat .nil
    rw [← hD, at_map, hf] at this
    cases this
  · obtain ⟨s', hv, rfl⟩ := rdSn_inv hR
    have := hat .nil
    rw [← hD, at_map, hf] at this
    cases this
    rw [hrun, hv]
theorem look_none {k : Int} (h : w.ownsMap Try.prog 2 rdSn b n (mapD l)) (hz : (zeroValue 34).run Try.prog w = .ok (sv ⟨0, 0, 0⟩) w) (hk : -9223372036854775808 ≤ k ∧ k ≤ 9223372036854775807) (hf : l.find? (fun x => decide (x.number = k)) = none) (c : Bool) :
    (Instr.lookup 58 (.map (some b)) (.int .i64 k) c).run Try.prog w = .ok (if c then .tuple #[sv ⟨0, 0, 0⟩, .bool false] else sv ⟨0, 0, 0⟩) w := by
  obtain ⟨es, clock, hb, F, _, hD⟩ := h
  rcases Maps.fit_look c i64_keyed Try.underlying58 hz hb F (i64_key hk) with ⟨hrun, _, hat⟩ | ⟨e0, y, _, _, hrun, hR, hat, _⟩
  · exact hrun
  · obtain ⟨s', hv, rfl⟩ := rdSn_inv hR
    have := hat .nil
    rw [← hD, at_map, hf] at this
    cases this
end
end Go.Proofs.Ytbnjieppcojckaa
