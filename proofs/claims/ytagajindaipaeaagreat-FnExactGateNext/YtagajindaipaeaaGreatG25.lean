/- Texts of ours put together: AppOl, LnP, LnI, LnC. -/
import Derived.Test.YtagajindaipaeaaGreatG02
import Derived.Laws.AppendOwn
import Derived.Maps.AppendAt
import Derived.Test.YtagajindaipaeaaGreatG19
import Derived.Test.YtagajindaipaeaaGreatG20
import Derived.Shelf.RegionOpen
import Derived.Deep.QuietTactic
import Derived.BigQuiet
import Derived.BigRegion
import Derived.Deep.RegionHeld3
namespace Go.Proofs.YtagajindaipaeaaGreat
open Go.ChangeShapes Go.WideShapes Go.ChangeAt Go.RowKit
theorem infoOlA : (Tryz.prog.info? 173).map (fun i => (i.zero, i.size, i.bytes)) = some (some (.agg #[.string ⟨#[]⟩, .string ⟨#[]⟩, .int .i64 0, .string ⟨#[]⟩, .int .i64 0, .int .i64 0, .int .i64 0, .int .i64 0]), 8, 88) := by kernel_rfl
/-- Its cells, one behind the other. -/
def clOl (g : OLn) : List Value := [.string g.partner, .string g.ref, .int .i64 g.no, .string g.item, .int .i64 g.ordered, .int .i64 g.sent, .int .i64 g.got, .int .i64 g.cut]
def clOls (rs : List OLn) : List Value := rs.flatMap clOl
theorem clOls_len (rs : List OLn) : (clOls rs).length = rs.length * 8 := by
  induction rs with
  | nil => rfl
  | cons g r ih =>
    have : clOls (g :: r) = clOl g ++ clOls r := rfl
    rw [this, List.length_append, ih, List.length_cons]
    have : (clOl g).length = 8 := rfl
    omega
theorem clOls_app (rs : List OLn) (g : OLn) : clOls (rs ++ [g]) = clOls rs ++ clOl g := by simp [clOls]
theorem clOls_at : ∀ {rs : List OLn} {i : Nat} {g : OLn}, rs[i]? = some g → (clOls rs)[i * 8]? = some (.string g.partner) ∧ (clOls rs)[i * 8 + 1]? = some (.string g.ref) ∧ (clOls rs)[i * 8 + 2]? = some (.int .i64 g.no) ∧ (clOls rs)[i * 8 + 3]? = some (.string g.item) ∧ (clOls rs)[i * 8 + 4]? = some (.int .i64 g.ordered) ∧ (clOls rs)[i * 8 + 5]? = some (.int .i64 g.sent) ∧ (clOls rs)[i * 8 + 6]? = some (.int .i64 g.got) ∧ (clOls rs)[i * 8 + 7]? = some (.int .i64 g.cut)
  | [], i, g, h => by simp at h
  | x :: r, 0, g, h => by
    simp only [List.getElem?_cons_zero, Option.some.injEq] at h
    subst h
    refine ⟨rfl, rfl, rfl, rfl, rfl, rfl, rfl, rfl⟩
  | x :: r, i + 1, g, h => by
    rw [List.getElem?_cons_succ] at h
    obtain ⟨e0, e1, e2, e3, e4, e5, e6, e7⟩ := clOls_at h
    have hc : clOls (x :: r) = clOl x ++ clOls r := rfl
    have hl : (clOl x).length = 8 := rfl
    refine ⟨?_, ?_, ?_, ?_, ?_, ?_, ?_, ?_⟩
    · rw [hc, List.getElem?_append_right (by omega), hl, ← e0]
      congr 1
      omega
    · rw [hc, List.getElem?_append_right (by omega), hl, ← e1]
      congr 1
      omega
    · rw [hc, List.getElem?_append_right (by omega), hl, ← e2]
      congr 1
      omega
    · rw [hc, List.getElem?_append_right (by omega), hl, ← e3]
      congr 1
      omega
    · rw [hc, List.getElem?_append_right (by omega), hl, ← e4]
      congr 1
      omega
    · rw [hc, List.getElem?_append_right (by omega), hl, ← e5]
      congr 1
      omega
    · rw [hc, List.getElem?_append_right (by omega), hl, ← e6]
      congr 1
      omega
    · rw [hc, List.getElem?_append_right (by omega), hl, ← e7]
      congr 1
      omega
/-- A list that the call has made by appends, read. -/
theorem LOl.of_owns {W : World} {base : Nat} {v : Value} {rs : List OLn} (h : W.ownsRow base 173 8 v rs.length (clOls rs)) (hl : rs.length ≤ 9223372036854775807) (hz : ∀ (i : Nat) (g : OLn), rs[i]? = some g → g.partner.size ≤ 9223372036854775807 ∧ g.ref.size ≤ 9223372036854775807 ∧ g.item.size ≤ 9223372036854775807) : ∃ b, base ≤ b ∧ LOl b W v rs := by
  rcases h.2 with ⟨rfl, h0⟩ | ⟨b, cap, cur, rfl, hb, hh, hc, hm, hs, ht⟩
  · refine ⟨base, Nat.le_refl _, ⟨none, 0, by rw [h0], fun hn => absurd (List.eq_nil_of_length_eq_zero h0) hn⟩, hl, hz⟩
  · refine ⟨b, hb, ⟨_, _, rfl, fun _ => ⟨rfl, cap * 8, fun i => cur[i]?.getD undef, ⟨cur, hh, hs, fun i hi => by simp [hs, hi]⟩, Nat.mul_le_mul_right _ hc, fun i g hi => ?_⟩⟩, hl, hz⟩
    obtain ⟨e0, e1, e2, e3, e4, e5, e6, e7⟩ := clOls_at hi
    have hlt := (List.getElem?_eq_some_iff.1 hi).1
    rw [← ht] at e0 e1 e2 e3 e4 e5 e6 e7
    have get : ∀ (j : Nat) (x : Value), j < rs.length * 8 → (cur.toList.take (rs.length * 8))[j]? = some x → cur[j]?.getD undef = x := fun j x hj hx => by
      rw [List.getElem?_take_of_lt hj, Array.getElem?_toList] at hx
      rw [hx]
      rfl
    exact ⟨get _ _ (by omega) e0, get _ _ (by omega) e1, get _ _ (by omega) e2, get _ _ (by omega) e3, get _ _ (by omega) e4, get _ _ (by omega) e5, get _ _ (by omega) e6, get _ _ (by omega) e7⟩
/-- An append of one, at the list of a plain region's operations. -/
theorem wpList_appOl {ops : Array Oper} {rest : List Oper} {o : Oper} {a : Act} {Q : Exit → Act → World → Prop} {W : World} {base c C : Nat} {lv : Value} {rs : List OLn} {g : OLn} (hgd : o.guard = none) (s x : Operand)
    (ho : o.op = .call { callee := .builtin .append, args := #[s, x], argTypes := #[36, 36] })
    (hs' : a.eval s = lv) (hx : a.eval x = .slice (some ⟨c, 0, none⟩) 1 C) (h : W.ownsRow base 173 8 lv rs.length (clOls rs)) (hg : AtOl W c 0 g) (hl : rs.length + 1 ≤ 2000000) (hbase : base ≤ W.heap.size)
    (k : ∀ v' w', w'.ownsRow base 173 8 v' (rs ++ [g]).length (clOls (rs ++ [g])) → W.grownBy w' lv.ownBlock → (∃ A C, v' = .slice A (rs ++ [g]).length C) → wpList Tryz.prog ops Q rest (a.put o.dst v') w') : wpList Tryz.prog ops Q (o :: rest) a W := by
  obtain ⟨i0, hi, hz0, hz1, hz2⟩ := info_parts infoOlA
  obtain ⟨q0, q1, q2, q3, q4, q5, q6, q7⟩ := hg
  refine wpList_append_own W hgd s x 36 ho base 173 i0 (.agg #[.string ⟨#[]⟩, .string ⟨#[]⟩, .int .i64 0, .string ⟨#[]⟩, .int .i64 0, .int .i64 0, .int .i64 0, .int .i64 0]) 8 88 Tryz.underlying36 hi hz0 hz1 hz2 rfl (by decide) lv rs.length (clOls rs) hs' h ⟨c, 0, none⟩ 1 C (clOl g) hx rfl (fun j u hu => ?_) (fun u hu => ?_) (by unfold maxLen; omega) (by omega) hbase ?_
  · rw [fl_addr]
    have hj := (List.getElem?_eq_some_iff.1 hu).1
    have hj3 : j < 8 := hj
    match j, hj3 with
    | 0, _ =>
      cases hu
      simpa using q0
    | 1, _ =>
      cases hu
      simpa using q1
    | 2, _ =>
      cases hu
      simpa using q2
    | 3, _ =>
      cases hu
      simpa using q3
    | 4, _ =>
      cases hu
      simpa using q4
    | 5, _ =>
      cases hu
      simpa using q5
    | 6, _ =>
      cases hu
      simpa using q6
    | 7, _ =>
      cases hu
      simpa using q7
  · simp only [clOl, List.mem_cons, List.not_mem_nil, or_false] at hu
    rcases hu with rfl | rfl | rfl | rfl | rfl | rfl | rfl | rfl <;> rfl
  · intro v' w' hown hgrow hnil
    have e1 : (rs ++ [g]).length = rs.length + 1 := by simp
    have hown' : w'.ownsRow base 173 8 v' (rs ++ [g]).length (clOls (rs ++ [g])) := by
      rw [e1, clOls_app]
      exact hown
    refine k v' w' hown' hgrow ?_
    rcases hown'.2 with ⟨rfl, h0⟩ | ⟨b, cap, cur, rfl, _⟩
    · exact ⟨none, 0, by rw [h0]⟩
    · exact ⟨_, _, rfl⟩
theorem clOls_get : ∀ {rs : List OLn} {j : Nat} {u : Value}, (clOls rs)[j]? = some u → ∃ (i : Nat) (g : OLn), rs[i]? = some g ∧ ((j = i * 8 ∧ u = .string g.partner) ∨ (j = i * 8 + 1 ∧ u = .string g.ref) ∨ (j = i * 8 + 2 ∧ u = .int .i64 g.no) ∨ (j = i * 8 + 3 ∧ u = .string g.item) ∨ (j = i * 8 + 4 ∧ u = .int .i64 g.ordered) ∨ (j = i * 8 + 5 ∧ u = .int .i64 g.sent) ∨ (j = i * 8 + 6 ∧ u = .int .i64 g.got) ∨ (j = i * 8 + 7 ∧ u = .int .i64 g.cut))
  | [], j, u, h => by simp [clOls] at h
  | x :: r, j, u, h => by
    have hc : clOls (x :: r) = clOl x ++ clOls r := rfl
    have hl : (clOl x).length = 8 := rfl
    rw [hc] at h
    by_cases hj : j < 8
    · rw [List.getElem?_append_left (by omega)] at h
      refine ⟨0, x, rfl, ?_⟩
      match j, hj with
      | 0, _ => cases h; simp
      | 1, _ => cases h; simp
      | 2, _ => cases h; simp
      | 3, _ => cases h; simp
      | 4, _ => cases h; simp
      | 5, _ => cases h; simp
      | 6, _ => cases h; simp
      | 7, _ => cases h; simp
    · rw [List.getElem?_append_right (by omega), hl] at h
      obtain ⟨i, g, hg, ho⟩ := clOls_get h
      refine ⟨i + 1, g, by simpa using hg, ?_⟩
      rcases ho with ⟨h1, h2⟩ | ⟨h1, h2⟩ | ⟨h1, h2⟩ | ⟨h1, h2⟩ | ⟨h1, h2⟩ | ⟨h1, h2⟩ | ⟨h1, h2⟩ | ⟨h1, h2⟩
      · exact .inl ⟨by omega, h2⟩
      · exact .inr (.inl ⟨by omega, h2⟩)
      · exact .inr (.inr (.inl ⟨by omega, h2⟩))
      · exact .inr (.inr (.inr (.inl ⟨by omega, h2⟩)))
      · exact .inr (.inr (.inr (.inr (.inl ⟨by omega, h2⟩))))
      · exact .inr (.inr (.inr (.inr (.inr (.inl ⟨by omega, h2⟩)))))
      · exact .inr (.inr (.inr (.inr (.inr (.inr (.inl ⟨by omega, h2⟩))))))
      · exact .inr (.inr (.inr (.inr (.inr (.inr (.inr (⟨by omega, h2⟩)))))))
/-- An append of a list, at the list of a plain region's operations. -/
theorem wpList_appsOl {ops : Array Oper} {rest : List Oper} {o : Oper} {a : Act} {Q : Exit → Act → World → Prop} {W : World} {base C : Nat} {lv : Value} {ad : Addr} {rs ms : List OLn} (hgd : o.guard = none) (s x : Operand)
    (ho : o.op = .call { callee := .builtin .append, args := #[s, x], argTypes := #[36, 36] })
    (hs' : a.eval s = lv) (hx : a.eval x = .slice (some ad) ms.length C) (h : W.ownsRow base 173 8 lv rs.length (clOls rs)) (hg : RowOl W (.slice (some ad) ms.length C) ms) (hl : rs.length + ms.length ≤ 2000000) (hbase : base ≤ W.heap.size)
    (k : ∀ v' w', w'.ownsRow base 173 8 v' (rs ++ ms).length (clOls (rs ++ ms)) → W.grownBy w' lv.ownBlock → (∃ A C, v' = .slice A (rs ++ ms).length C) → wpList Tryz.prog ops Q rest (a.put o.dst v') w') : wpList Tryz.prog ops Q (o :: rest) a W := by
  obtain ⟨i0, hi, hz0, hz1, hz2⟩ := info_parts infoOlA
  refine wpList_append_own W hgd s x 36 ho base 173 i0 (.agg #[.string ⟨#[]⟩, .string ⟨#[]⟩, .int .i64 0, .string ⟨#[]⟩, .int .i64 0, .int .i64 0, .int .i64 0, .int .i64 0]) 8 88 Tryz.underlying36 hi hz0 hz1 hz2 rfl (by decide) lv rs.length (clOls rs) hs' h ad ms.length C (clOls ms) hx (clOls_len ms) (fun j u hu => ?_) (fun u hu => ?_) (by unfold maxLen; omega) (by omega) hbase ?_
  · obtain ⟨i, g, hg', ho'⟩ := clOls_get hu
    obtain ⟨a', cap, e, hc⟩ := hg.shape
    simp only [Value.slice.injEq] at e
    obtain ⟨b, o', ea, hcell⟩ := hc (by intro e2; rw [e2] at hg'; simp at hg')
    rw [← e.1] at ea
    cases ea
    obtain ⟨q0, q1, q2, q3, q4, q5, q6, q7⟩ := hcell i g hg'
    rw [fl_addr]
    rcases ho' with ⟨rfl, rfl⟩ | ⟨rfl, rfl⟩ | ⟨rfl, rfl⟩ | ⟨rfl, rfl⟩ | ⟨rfl, rfl⟩ | ⟨rfl, rfl⟩ | ⟨rfl, rfl⟩ | ⟨rfl, rfl⟩
    · first | exact q0 | (rw [← q0]; congr 2; omega)
    · first | exact q1 | (rw [← q1]; congr 2; omega)
    · first | exact q2 | (rw [← q2]; congr 2; omega)
    · first | exact q3 | (rw [← q3]; congr 2; omega)
    · first | exact q4 | (rw [← q4]; congr 2; omega)
    · first | exact q5 | (rw [← q5]; congr 2; omega)
    · first | exact q6 | (rw [← q6]; congr 2; omega)
    · first | exact q7 | (rw [← q7]; congr 2; omega)
  · obtain ⟨j, hj⟩ := List.getElem?_of_mem hu
    obtain ⟨i, g, _, ho'⟩ := clOls_get hj
    rcases ho' with ⟨_, rfl⟩ | ⟨_, rfl⟩ | ⟨_, rfl⟩ | ⟨_, rfl⟩ | ⟨_, rfl⟩ | ⟨_, rfl⟩ | ⟨_, rfl⟩ | ⟨_, rfl⟩ <;> rfl
  · intro v' w' hown hgrow hnil
    have e1 : (rs ++ ms).length = rs.length + ms.length := by simp
    have e2 : clOls (rs ++ ms) = clOls rs ++ clOls ms := by simp [clOls]
    have hown' : w'.ownsRow base 173 8 v' (rs ++ ms).length (clOls (rs ++ ms)) := by
      rw [e1, e2]
      exact hown
    refine k v' w' hown' hgrow ?_
    rcases hown'.2 with ⟨rfl, h0⟩ | ⟨b, cap, cur, rfl, _⟩
    · exact ⟨none, 0, by rw [h0]⟩
    · exact ⟨_, _, rfl⟩
end Go.Proofs.YtagajindaipaeaaGreat
namespace Go.Proofs.YtagajindaipaeaaGreat
open Go.ChangeShapes Go.WideShapes Go.ChangeAt Go.RowKit
open Go.Lib (compareBytes)
/-- A quantity. -/
def qtyB (z : Int) : Bool := decide (1 ≤ z ∧ z ≤ 1000000)
theorem qtyB_yes {z : Int} (h : 1 ≤ z ∧ z ≤ 1000000) : qtyB z = true := decide_eq_true h
theorem qtyB_no {z : Int} (h : ¬ (1 ≤ z ∧ z ≤ 1000000)) : qtyB z = false := decide_eq_false h
/-- A right line. -/
structure LnOk (l : OLn) : Prop where
  p : nameB l.partner = true
  r : nameB l.ref = true
  i : nameB l.item = true
  n1 : 1 ≤ l.no
  n2 : l.no ≤ 999
  o1 : 1 ≤ l.ordered
  o2 : l.ordered ≤ 1000000
  s0 : 0 ≤ l.sent
  g0 : 0 ≤ l.got
  c0 : 0 ≤ l.cut
  gs : l.got ≤ l.sent
  so : l.sent ≤ l.ordered
  co : l.cut ≤ l.ordered - l.sent
open Classical in
noncomputable def lnB (l : OLn) : Bool := decide (LnOk l)
theorem lnB_yes {l : OLn} (h : LnOk l) : lnB l = true := by simp [lnB, h]
theorem lnB_no {l : OLn} (h : ¬ LnOk l) : lnB l = false := by simp [lnB, h]
theorem lnB_iff {l : OLn} : lnB l = true ↔ LnOk l := by simp [lnB]
theorem lnB_iff' {l : OLn} : lnB l = false ↔ ¬ LnOk l := by simp [lnB]
/-- Its three texts are names, its No is one. -/
def nmdB (l : OLn) : Bool := nameB l.partner && (nameB l.ref && (nameB l.item && decide (1 ≤ l.no ∧ l.no ≤ 999)))
/-- Its numbers fit together. -/
def cntB (l : OLn) : Bool := decide (1 ≤ l.ordered ∧ l.ordered ≤ 1000000 ∧ 0 ≤ l.got ∧ l.got ≤ l.sent ∧ l.sent ≤ l.ordered ∧ 0 ≤ l.cut ∧ l.cut ≤ l.ordered - l.sent)
theorem lnB_split (l : OLn) : lnB l = (nmdB l && cntB l) := by
  cases h : (nmdB l && cntB l) with
  | true =>
    simp only [nmdB, cntB, Bool.and_eq_true, decide_eq_true_eq] at h
    obtain ⟨⟨h1, h2, h3, h4, h5⟩, h6, h7, h8, h9, h10, h11, h12⟩ := h
    exact lnB_yes ⟨h1, h2, h3, h4, h5, h6, h7, by omega, h8, h11, h9, h10, h12⟩
  | false =>
    refine lnB_no fun g => ?_
    have : (nmdB l && cntB l) = true := by
      simp only [nmdB, cntB, Bool.and_eq_true, decide_eq_true_eq]
      exact ⟨⟨g.p, g.r, g.i, g.n1, g.n2⟩, g.o1, g.o2, g.g0, g.gs, g.so, g.c0, g.co⟩
    rw [this] at h
    cases h
theorem nameB_sizes {t : ByteArray} (h : nameB t = true) : 1 ≤ t.size ∧ t.size ≤ 12 := by
  simp only [nameB, Bool.and_eq_true, decide_eq_true_eq] at h
  exact h.1.1
/-- Ahead of: by Partner, then by Ref, then by No. -/
def befL (a b : OLn) : Bool := Op.bytesLess a.partner.toList b.partner.toList || (a.partner.toList == b.partner.toList && (Op.bytesLess a.ref.toList b.ref.toList || (a.ref.toList == b.ref.toList && decide (a.no < b.no))))
theorem befL_trans {a b c : OLn} (h1 : befL a b = true) (h2 : befL b c = true) : befL a c = true := by
  simp only [befL, Bool.or_eq_true, Bool.and_eq_true, beq_iff_eq, decide_eq_true_eq] at h1 h2 ⊢
  rcases h1 with h1 | ⟨e1, h1⟩ <;> rcases h2 with h2 | ⟨e2, h2⟩
  · exact .inl (bl_trans h1 h2)
  · exact .inl (e2 ▸ h1)
  · exact .inl (e1 ▸ h2)
  · refine .inr ⟨e1.trans e2, ?_⟩
    rcases h1 with h1 | ⟨f1, h1⟩ <;> rcases h2 with h2 | ⟨f2, h2⟩
    · exact .inl (bl_trans h1 h2)
    · exact .inl (f2 ▸ h1)
    · exact .inl (f1 ▸ h2)
    · exact .inr ⟨f1.trans f2, by omega⟩
theorem befL_irrefl (a : OLn) : befL a a = false := by simp [befL, bl_irrefl]
theorem befL_asymm {a b : OLn} (h : befL a b = true) : befL b a = false := by
  cases e : befL b a with
  | false => rfl
  | true =>
    have := befL_trans h e
    rw [befL_irrefl] at this
    cases this
/-- The three that lines are told apart by. -/
def keyL (l : OLn) : ByteArray × ByteArray × Int := (l.partner, l.ref, l.no)
theorem ba_list {a b : ByteArray} (h : a.toList = b.toList) : a = b := by
  rw [ByteArray.toList_eq, ByteArray.toList_eq] at h
  exact ByteArray.ext (Array.toList_inj.1 h)
theorem befL_tri {a b : OLn} (h1 : befL a b = false) (h2 : befL b a = false) : keyL a = keyL b := by
  simp only [befL, Bool.or_eq_false_iff, Bool.and_eq_false_iff, beq_eq_false_iff_ne, decide_eq_false_iff_not] at h1 h2
  have ep := bl_tri h1.1 h2.1
  have h1' := h1.2.resolve_left (by simp [ep])
  have h2' := h2.2.resolve_left (by simp [ep])
  have er := bl_tri h1'.1 h2'.1
  have h1n := h1'.2.resolve_left (by simp [er])
  have h2n := h2'.2.resolve_left (by simp [er])
  have en : a.no = b.no := by omega
  simp [keyL, ba_list ep, ba_list er, en]
theorem befL_key {a b : OLn} (h : befL a b = true) : keyL a ≠ keyL b := fun e => by
  simp only [keyL, Prod.mk.injEq] at e
  simp [befL, e.1, e.2.1, e.2.2, bl_irrefl] at h
theorem befL_congr {a b c d : OLn} (h1 : keyL a = keyL c) (h2 : keyL b = keyL d) : befL a b = befL c d := by
  simp only [keyL, Prod.mk.injEq] at h1 h2
  simp [befL, h1.1, h1.2.1, h1.2.2, h2.1, h2.2.1, h2.2.2]
def cmpZ (x y : Int) : Int := if x < y then -1 else if y < x then 1 else 0
def orZ (x y : Int) : Int := if x = 0 then y else x
/-- compare's own answer. -/
def lcmp (a b : OLn) : Int := orZ (compareBytes a.partner.data.toList b.partner.data.toList) (orZ (compareBytes a.ref.data.toList b.ref.data.toList) (cmpZ a.no b.no))
theorem lcmp_neg (a b : OLn) : lcmp a b < 0 ↔ befL a b = true := by
  simp only [lcmp, orZ, befL, Bool.or_eq_true, Bool.and_eq_true, beq_iff_eq, decide_eq_true_eq, ByteArray.toList_eq]
  by_cases h : compareBytes a.partner.data.toList b.partner.data.toList = 0
  · rw [if_pos h]
    have e := (cb_zero _ _).1 h
    rw [e]
    simp only [bl_irrefl, Bool.false_eq_true, true_and, false_or]
    by_cases h2 : compareBytes a.ref.data.toList b.ref.data.toList = 0
    · rw [if_pos h2]
      have e2 := (cb_zero _ _).1 h2
      rw [e2]
      simp only [bl_irrefl, Bool.false_eq_true, true_and, false_or, cmpZ]
      split
      · simp [*]
      · split <;> simp [*]
    · rw [if_neg h2, cb_neg]
      have e2 : ¬ a.ref.data.toList = b.ref.data.toList := fun e => h2 ((cb_zero _ _).2 e)
      simp [e2]
  · rw [if_neg h, cb_neg]
    have e : ¬ a.partner.data.toList = b.partner.data.toList := fun e => h ((cb_zero _ _).2 e)
    simp [e]
theorem lcmp_pos (a b : OLn) : 0 < lcmp a b ↔ befL b a = true := by
  simp only [lcmp, orZ, befL, Bool.or_eq_true, Bool.and_eq_true, beq_iff_eq, decide_eq_true_eq, ByteArray.toList_eq]
  by_cases h : compareBytes a.partner.data.toList b.partner.data.toList = 0
  · rw [if_pos h]
    have e := (cb_zero _ _).1 h
    rw [e]
    simp only [bl_irrefl, Bool.false_eq_true, true_and, false_or]
    by_cases h2 : compareBytes a.ref.data.toList b.ref.data.toList = 0
    · rw [if_pos h2]
      have e2 := (cb_zero _ _).1 h2
      rw [e2]
      simp only [bl_irrefl, Bool.false_eq_true, true_and, false_or, cmpZ]
      split
      · simp; omega
      · split <;> simp [*]
    · rw [if_neg h2, cb_pos]
      have e2 : ¬ b.ref.data.toList = a.ref.data.toList := fun e => h2 ((cb_zero _ _).2 e.symm)
      simp [e2]
  · rw [if_neg h, cb_pos]
    have e : ¬ b.partner.data.toList = a.partner.data.toList := fun e => h ((cb_zero _ _).2 e.symm)
    simp [e]
theorem lcmp_zero (a b : OLn) : lcmp a b = 0 ↔ keyL a = keyL b := by
  constructor
  · intro h
    refine befL_tri ?_ ?_
    · rw [← Bool.not_eq_true, ← lcmp_neg]; omega
    · rw [← Bool.not_eq_true, ← lcmp_pos]; omega
  · intro h
    have h1 : ¬ lcmp a b < 0 := by rw [lcmp_neg]; intro g; exact befL_key g h
    have h2 : ¬ 0 < lcmp a b := by rw [lcmp_pos]; intro g; exact befL_key g h.symm
    omega
def zeroL : OLn := ⟨⟨#[]⟩, ⟨#[]⟩, 0, ⟨#[]⟩, 0, 0, 0, 0⟩
theorem lcmp_first {c : OLn} (h : nameB c.partner = true) : 0 < lcmp c zeroL := by
  have h1 := (nameB_sizes h).1
  rw [lcmp_pos]
  simp only [befL, zeroL, ByteArray.toList_eq, Bool.or_eq_true]
  refine .inl ?_
  cases hl : c.partner.data.toList with
  | nil =>
    have : c.partner.data.toList.length = 0 := by rw [hl]; rfl
    have e : c.partner.size = c.partner.data.toList.length := by simp
    omega
  | cons x r => simp [Op.bytesLess]
/-- What is asked at place i. -/
structure OkL (rs : List OLn) (i : Nat) (c : OLn) : Prop where
  ok : LnOk c
  rise : ∀ d, 0 < i → rs[i - 1]? = some d → befL d c = true
structure RightL (rs : List OLn) : Prop where
  len : rs.length ≤ 200
  at_ : ∀ i c, rs[i]? = some c → OkL rs i c
open Classical in
noncomputable def lnsB (rs : List OLn) : Bool := decide (RightL rs)
theorem lnsB_yes {rs : List OLn} (h : RightL rs) : lnsB rs = true := by simp [lnsB, h]
theorem lnsB_no {rs : List OLn} (h : ¬ RightL rs) : lnsB rs = false := by simp [lnsB, h]
theorem lnsB_iff {rs : List OLn} : lnsB rs = true ↔ RightL rs := by simp [lnsB]
theorem lnsB_iff' {rs : List OLn} : lnsB rs = false ↔ ¬ RightL rs := by simp [lnsB]
theorem riseL_all {rs : List OLn} : ∀ {k : Nat}, (∀ i c, i ≤ k → rs[i]? = some c → OkL rs i c) → ∀ i d c, i < k → rs[i]? = some d → rs[k]? = some c → befL d c = true
  | 0, _, i, _, _, h, _, _ => by omega
  | k + 1, h, i, d, c, hi, hd, hc => by
    have hk : k < rs.length := by have := (List.getElem?_eq_some_iff.1 hc).1; omega
    have e := List.getElem?_eq_getElem hk
    have h1 := (h (k + 1) c (Nat.le_refl _) hc).rise rs[k] (by omega) e
    rcases Nat.lt_or_ge i k with g | g
    · exact befL_trans (riseL_all (fun i c hi => h i c (by omega)) i d rs[k] g hd e) h1
    · obtain rfl : i = k := by omega
      rw [hd] at e
      cases e
      exact h1
theorem RightL.pair {rs : List OLn} (h : RightL rs) : rs.Pairwise fun a b => befL a b = true := by
  rw [List.pairwise_iff_getElem]
  intro i j hi hj hij
  exact riseL_all (k := j) (fun i c _ hc => h.at_ i c hc) i _ _ hij (List.getElem?_eq_getElem hi) (List.getElem?_eq_getElem hj)
theorem RightL.ok {rs : List OLn} (h : RightL rs) : ∀ c ∈ rs, LnOk c := fun c hc => by
  obtain ⟨i, hi⟩ := List.mem_iff_getElem?.1 hc
  exact (h.at_ i c hi).ok
theorem RightL.of_pair {rs : List OLn} (hl : rs.length ≤ 200) (ho : ∀ c ∈ rs, LnOk c) (hp : rs.Pairwise fun a b => befL a b = true) : RightL rs := by
  rw [List.pairwise_iff_getElem] at hp
  refine ⟨hl, fun i c hc => ?_⟩
  obtain ⟨hi, e⟩ := List.getElem?_eq_some_iff.1 hc
  refine ⟨ho c (List.mem_of_getElem? hc), fun d h0 hd => ?_⟩
  obtain ⟨hi', e'⟩ := List.getElem?_eq_some_iff.1 hd
  have := hp (i - 1) i hi' hi (by omega)
  rwa [e, e'] at this
/-- What is open of a line, and in transit. -/
noncomputable def opnT (l : OLn) : Int := if lnB l = true then l.ordered - l.sent - l.cut else 0
noncomputable def trnT (l : OLn) : Int := if lnB l = true then l.sent - l.got else 0
theorem opnT_yes {l : OLn} (h : LnOk l) : opnT l = l.ordered - l.sent - l.cut := if_pos (lnB_yes h)
theorem trnT_yes {l : OLn} (h : LnOk l) : trnT l = l.sent - l.got := if_pos (lnB_yes h)
theorem opnT_no {l : OLn} (h : ¬ LnOk l) : opnT l = 0 := if_neg (by simp [lnB_no h])
theorem trnT_no {l : OLn} (h : ¬ LnOk l) : trnT l = 0 := if_neg (by simp [lnB_no h])
end Go.Proofs.YtagajindaipaeaaGreat
namespace Go.Proofs.YtagajindaipaeaaGreat
open Go.ChangeShapes Go.WideShapes Go.ChangeAt Go.RowKit
theorem box8 {W : World} {b t : Nat} {x0 x1 x2 x3 x4 x5 x6 x7 : Value} (h : W.heap[b]? = some (.cells #[x0, x1, x2, x3, x4, x5, x6, x7] t)) : W.cell? ⟨b, 0, none⟩ = some x0 ∧ W.cell? ⟨b, 1, none⟩ = some x1 ∧ W.cell? ⟨b, 2, none⟩ = some x2 ∧ W.cell? ⟨b, 3, none⟩ = some x3 ∧ W.cell? ⟨b, 4, none⟩ = some x4 ∧ W.cell? ⟨b, 5, none⟩ = some x5 ∧ W.cell? ⟨b, 6, none⟩ = some x6 ∧ W.cell? ⟨b, 7, none⟩ = some x7 := by
  refine ⟨?_, ?_, ?_, ?_, ?_, ?_, ?_, ?_⟩ <;> simp [World.cell?, h]
theorem ret_no {p : Prop} [Decidable p] (h : ¬ p) : Ending.returned (.bool (decide p)) = .returned (.bool false) := by rw [decide_eq_false h]
theorem ret_yes {p : Prop} [Decidable p] (h : p) : Ending.returned (.bool (decide p)) = .returned (.bool true) := by rw [decide_eq_true h]
theorem isQuantity_any (z : Int) (w : World) : Calls Tryz.prog 194 #[.int .i64 z] w fun e w' => e = .returned (.bool (qtyB z)) ∧ w' = w := by
  by_cases h1 : 1 ≤ z
  · by_cases h2 : z ≤ 1000000
    · rw [qtyB_yes ⟨h1, h2⟩]
      go_enter Tryz.func194, Tryz.ntmps194
      go_wp2
      go_ret
      exact ⟨by first | rfl | exact ret_yes (p := z ≤ 1000000) (by omega), rfl⟩
    · rw [qtyB_no (by omega)]
      go_enter Tryz.func194, Tryz.ntmps194
      go_wp2
      go_ret
      exact ⟨by first | rfl | exact ret_no (p := z ≤ 1000000) (by omega), rfl⟩
  · rw [qtyB_no (by omega)]
    go_enter Tryz.func194, Tryz.ntmps194
    go_wp2
    go_ret
    exact ⟨rfl, rfl⟩
set_option maxHeartbeats 2000000 in
theorem named_any (l : OLn) (w : World) : Calls Tryz.prog 180 #[.agg #[.string l.partner, .string l.ref, .int .i64 l.no, .string l.item, .int .i64 l.ordered, .int .i64 l.sent, .int .i64 l.got, .int .i64 l.cut]] w fun e w' => e = .returned (.bool (nmdB l)) ∧ Below w.heap.size w w' := by
  have HE : Hid (nmdB l = (nameB l.partner && (nameB l.ref && (nameB l.item && decide (1 ≤ l.no ∧ l.no ≤ 999))))) := rfl
  obtain ⟨r, hr⟩ : ∃ r, r = nmdB l := ⟨_, rfl⟩
  have HR : Hid (r = nmdB l) := hr
  rw [← hr]
  clear hr
  obtain ⟨partner, ref, no, item, ordered, sent, got, cut⟩ := l
  dsimp only at HE ⊢
  have HB : Hid (∀ o, Below w.heap.size w (w.alloc o)) := fun o => (Below.refl _ _).alloc (Nat.le_refl _) _
  have Q1 := isName_any partner
  have Q2 := isName_any ref
  have Q3 := isName_any item
  cases h1 : nameB partner
  · obtain rfl : r = false := by rw [HR.out, HE.out, h1]; rfl
    rw [h1] at Q1
    go_enter Tryz.func180, Tryz.ntmps180
    go_wp2_with (go_at_call 40; refine (Q1 _).mono ?_; rintro e w' ⟨rfl, rfl⟩)
    go_ret
    exact ⟨by first | rfl | exact ret_no (p := no ≤ 999) (by omega) | exact ret_yes (p := no ≤ 999) (by omega) | exact ret_no (p := cut ≤ ordered - sent) (by omega) | exact ret_yes (p := cut ≤ ordered - sent) (by omega), HB.out _⟩
  cases h2 : nameB ref
  · obtain rfl : r = false := by rw [HR.out, HE.out, h1, h2]; rfl
    rw [h1] at Q1
    rw [h2] at Q2
    go_enter Tryz.func180, Tryz.ntmps180
    go_wp2_with (first | (go_at_call_of 40 (Value.string partner); refine (Q1 _).mono ?_; rintro e w' ⟨rfl, rfl⟩) | (go_at_call_of 40 (Value.string ref); refine (Q2 _).mono ?_; rintro e w' ⟨rfl, rfl⟩))
    go_ret
    exact ⟨by first | rfl | exact ret_no (p := no ≤ 999) (by omega) | exact ret_yes (p := no ≤ 999) (by omega) | exact ret_no (p := cut ≤ ordered - sent) (by omega) | exact ret_yes (p := cut ≤ ordered - sent) (by omega), HB.out _⟩
  cases h3 : nameB item
  · obtain rfl : r = false := by rw [HR.out, HE.out, h1, h2, h3]; rfl
    rw [h1] at Q1
    rw [h2] at Q2
    rw [h3] at Q3
    go_enter Tryz.func180, Tryz.ntmps180
    go_wp2_with (first | (go_at_call_of 40 (Value.string partner); refine (Q1 _).mono ?_; rintro e w' ⟨rfl, rfl⟩) | (go_at_call_of 40 (Value.string ref); refine (Q2 _).mono ?_; rintro e w' ⟨rfl, rfl⟩) | (go_at_call_of 40 (Value.string item); refine (Q3 _).mono ?_; rintro e w' ⟨rfl, rfl⟩))
    go_ret
    exact ⟨by first | rfl | exact ret_no (p := no ≤ 999) (by omega) | exact ret_yes (p := no ≤ 999) (by omega) | exact ret_no (p := cut ≤ ordered - sent) (by omega) | exact ret_yes (p := cut ≤ ordered - sent) (by omega), HB.out _⟩
  rw [h1] at Q1
  rw [h2] at Q2
  rw [h3] at Q3
  by_cases h4 : 1 ≤ no
  · by_cases h5 : no ≤ 999
    · obtain rfl : r = true := by rw [HR.out, HE.out, h1, h2, h3]; simp [h4, h5]
      go_enter Tryz.func180, Tryz.ntmps180
      go_wp2_with (first | (go_at_call_of 40 (Value.string partner); refine (Q1 _).mono ?_; rintro e w' ⟨rfl, rfl⟩) | (go_at_call_of 40 (Value.string ref); refine (Q2 _).mono ?_; rintro e w' ⟨rfl, rfl⟩) | (go_at_call_of 40 (Value.string item); refine (Q3 _).mono ?_; rintro e w' ⟨rfl, rfl⟩))
      go_ret
      exact ⟨by first | rfl | exact ret_no (p := no ≤ 999) (by omega) | exact ret_yes (p := no ≤ 999) (by omega) | exact ret_no (p := cut ≤ ordered - sent) (by omega) | exact ret_yes (p := cut ≤ ordered - sent) (by omega), HB.out _⟩
    · obtain rfl : r = false := by rw [HR.out, HE.out, h1, h2, h3]; simp [h4, h5]
      go_enter Tryz.func180, Tryz.ntmps180
      go_wp2_with (first | (go_at_call_of 40 (Value.string partner); refine (Q1 _).mono ?_; rintro e w' ⟨rfl, rfl⟩) | (go_at_call_of 40 (Value.string ref); refine (Q2 _).mono ?_; rintro e w' ⟨rfl, rfl⟩) | (go_at_call_of 40 (Value.string item); refine (Q3 _).mono ?_; rintro e w' ⟨rfl, rfl⟩))
      go_ret
      exact ⟨by first | rfl | exact ret_no (p := no ≤ 999) (by omega) | exact ret_yes (p := no ≤ 999) (by omega) | exact ret_no (p := cut ≤ ordered - sent) (by omega) | exact ret_yes (p := cut ≤ ordered - sent) (by omega), HB.out _⟩
  · obtain rfl : r = false := by rw [HR.out, HE.out, h1, h2, h3]; simp [h4]
    go_enter Tryz.func180, Tryz.ntmps180
    go_wp2_with (first | (go_at_call_of 40 (Value.string partner); refine (Q1 _).mono ?_; rintro e w' ⟨rfl, rfl⟩) | (go_at_call_of 40 (Value.string ref); refine (Q2 _).mono ?_; rintro e w' ⟨rfl, rfl⟩) | (go_at_call_of 40 (Value.string item); refine (Q3 _).mono ?_; rintro e w' ⟨rfl, rfl⟩))
    go_ret
    exact ⟨by first | rfl | exact ret_no (p := no ≤ 999) (by omega) | exact ret_yes (p := no ≤ 999) (by omega) | exact ret_no (p := cut ≤ ordered - sent) (by omega) | exact ret_yes (p := cut ≤ ordered - sent) (by omega), HB.out _⟩
set_option maxHeartbeats 2000000 in
theorem counted_any (l : OLn) (w : World) : Calls Tryz.prog 181 #[.agg #[.string l.partner, .string l.ref, .int .i64 l.no, .string l.item, .int .i64 l.ordered, .int .i64 l.sent, .int .i64 l.got, .int .i64 l.cut]] w fun e w' => e = .returned (.bool (cntB l)) ∧ Below w.heap.size w w' := by
  have HE : Hid (cntB l = decide (1 ≤ l.ordered ∧ l.ordered ≤ 1000000 ∧ 0 ≤ l.got ∧ l.got ≤ l.sent ∧ l.sent ≤ l.ordered ∧ 0 ≤ l.cut ∧ l.cut ≤ l.ordered - l.sent)) := rfl
  obtain ⟨r, hr⟩ : ∃ r, r = cntB l := ⟨_, rfl⟩
  have HR : Hid (r = cntB l) := hr
  rw [← hr]
  clear hr
  obtain ⟨partner, ref, no, item, ordered, sent, got, cut⟩ := l
  dsimp only at HE ⊢
  have HB : Hid (∀ o, Below w.heap.size w (w.alloc o)) := fun o => (Below.refl _ _).alloc (Nat.le_refl _) _
  have Q1 := isQuantity_any ordered
  by_cases h1 : 1 ≤ ordered ∧ ordered ≤ 1000000
  case neg =>
    obtain rfl : r = false := by
      rw [HR.out, HE.out, decide_eq_false_iff_not]
      omega
    rw [qtyB_no h1] at Q1
    go_enter Tryz.func181, Tryz.ntmps181
    go_wp2_with (go_at_call 194; refine (Q1 _).mono ?_; rintro e w' ⟨rfl, rfl⟩)
    go_ret
    exact ⟨by first | rfl | exact ret_no (p := no ≤ 999) (by omega) | exact ret_yes (p := no ≤ 999) (by omega) | exact ret_no (p := cut ≤ ordered - sent) (by omega) | exact ret_yes (p := cut ≤ ordered - sent) (by omega), HB.out _⟩
  by_cases h2 : 0 ≤ got
  case neg =>
    obtain rfl : r = false := by
      rw [HR.out, HE.out, decide_eq_false_iff_not]
      omega
    rw [qtyB_yes h1] at Q1
    go_enter Tryz.func181, Tryz.ntmps181
    go_wp2_with (go_at_call 194; refine (Q1 _).mono ?_; rintro e w' ⟨rfl, rfl⟩)
    go_ret
    exact ⟨by first | rfl | exact ret_no (p := no ≤ 999) (by omega) | exact ret_yes (p := no ≤ 999) (by omega) | exact ret_no (p := cut ≤ ordered - sent) (by omega) | exact ret_yes (p := cut ≤ ordered - sent) (by omega), HB.out _⟩
  by_cases h3 : got ≤ sent
  case neg =>
    obtain rfl : r = false := by
      rw [HR.out, HE.out, decide_eq_false_iff_not]
      omega
    rw [qtyB_yes h1] at Q1
    go_enter Tryz.func181, Tryz.ntmps181
    go_wp2_with (go_at_call 194; refine (Q1 _).mono ?_; rintro e w' ⟨rfl, rfl⟩)
    go_ret
    exact ⟨by first | rfl | exact ret_no (p := no ≤ 999) (by omega) | exact ret_yes (p := no ≤ 999) (by omega) | exact ret_no (p := cut ≤ ordered - sent) (by omega) | exact ret_yes (p := cut ≤ ordered - sent) (by omega), HB.out _⟩
  by_cases h4 : sent ≤ ordered
  case neg =>
    obtain rfl : r = false := by
      rw [HR.out, HE.out, decide_eq_false_iff_not]
      omega
    rw [qtyB_yes h1] at Q1
    go_enter Tryz.func181, Tryz.ntmps181
    go_wp2_with (go_at_call 194; refine (Q1 _).mono ?_; rintro e w' ⟨rfl, rfl⟩)
    go_ret
    exact ⟨by first | rfl | exact ret_no (p := no ≤ 999) (by omega) | exact ret_yes (p := no ≤ 999) (by omega) | exact ret_no (p := cut ≤ ordered - sent) (by omega) | exact ret_yes (p := cut ≤ ordered - sent) (by omega), HB.out _⟩
  by_cases h5 : 0 ≤ cut
  case neg =>
    obtain rfl : r = false := by
      rw [HR.out, HE.out, decide_eq_false_iff_not]
      omega
    rw [qtyB_yes h1] at Q1
    go_enter Tryz.func181, Tryz.ntmps181
    go_wp2_with (go_at_call 194; refine (Q1 _).mono ?_; rintro e w' ⟨rfl, rfl⟩)
    go_ret
    exact ⟨by first | rfl | exact ret_no (p := no ≤ 999) (by omega) | exact ret_yes (p := no ≤ 999) (by omega) | exact ret_no (p := cut ≤ ordered - sent) (by omega) | exact ret_yes (p := cut ≤ ordered - sent) (by omega), HB.out _⟩
  by_cases h6 : cut ≤ ordered - sent
  case neg =>
    obtain rfl : r = false := by
      rw [HR.out, HE.out, decide_eq_false_iff_not]
      omega
    rw [qtyB_yes h1] at Q1
    go_enter Tryz.func181, Tryz.ntmps181
    go_wp2_with (go_at_call 194; refine (Q1 _).mono ?_; rintro e w' ⟨rfl, rfl⟩)
    go_ret
    exact ⟨by first | rfl | exact ret_no (p := no ≤ 999) (by omega) | exact ret_yes (p := no ≤ 999) (by omega) | exact ret_no (p := cut ≤ ordered - sent) (by omega) | exact ret_yes (p := cut ≤ ordered - sent) (by omega), HB.out _⟩
  obtain rfl : r = true := by
    rw [HR.out, HE.out, decide_eq_true_eq]
    omega
  rw [qtyB_yes h1] at Q1
  go_enter Tryz.func181, Tryz.ntmps181
  go_wp2_with (go_at_call 194; refine (Q1 _).mono ?_; rintro e w' ⟨rfl, rfl⟩)
  go_ret
  exact ⟨by first | rfl | exact ret_no (p := no ≤ 999) (by omega) | exact ret_yes (p := no ≤ 999) (by omega) | exact ret_no (p := cut ≤ ordered - sent) (by omega) | exact ret_yes (p := cut ≤ ordered - sent) (by omega), HB.out _⟩
set_option maxHeartbeats 2000000 in
theorem lineRight_impl (l : OLn) (w : World) : Calls Tryz.prog 159 #[.agg #[.string l.partner, .string l.ref, .int .i64 l.no, .string l.item, .int .i64 l.ordered, .int .i64 l.sent, .int .i64 l.got, .int .i64 l.cut]] w fun e w' => e = .returned (.bool (lnB l)) ∧ Below w.heap.size w w' := by
  have Q1 := named_any l
  have Q2 := counted_any l
  rw [lnB_split]
  obtain ⟨a, ha⟩ : ∃ a, a = nmdB l := ⟨_, rfl⟩
  obtain ⟨b, hb⟩ : ∃ b, b = cntB l := ⟨_, rfl⟩
  rw [← ha] at Q1
  rw [← hb] at Q2
  rw [← ha, ← hb]
  clear ha hb
  obtain ⟨partner, ref, no, item, ordered, sent, got, cut⟩ := l
  dsimp only at Q1 Q2 ⊢
  obtain ⟨W0, hW0⟩ : ∃ W0, w.alloc (.cells #[.string partner, .string ref, .int .i64 no, .string item, .int .i64 ordered, .int .i64 sent, .int .i64 got, .int .i64 cut] 173) = W0 := ⟨_, rfl⟩
  have hb0 : Below w.heap.size w W0 := by rw [← hW0]; exact (Below.refl _ _).alloc (Nat.le_refl _) _
  have hbx : W0.heap[w.heap.size]? = some (.cells #[.string partner, .string ref, .int .i64 no, .string item, .int .i64 ordered, .int .i64 sent, .int .i64 got, .int .i64 cut] 173) := by rw [← hW0]; exact World.alloc_heap_new _ _
  go_enter Tryz.func159, Tryz.ntmps159
  go_upto_region 1 with fail
  try rw [hW0]
  clear hW0
  have HC : Hid (∀ W, Below W0.heap.size W0 W → W.cell? ⟨w.heap.size, 0, none⟩ = some (.string partner) ∧ W.cell? ⟨w.heap.size, 1, none⟩ = some (.string ref) ∧ W.cell? ⟨w.heap.size, 2, none⟩ = some (.int .i64 no) ∧ W.cell? ⟨w.heap.size, 3, none⟩ = some (.string item) ∧ W.cell? ⟨w.heap.size, 4, none⟩ = some (.int .i64 ordered) ∧ W.cell? ⟨w.heap.size, 5, none⟩ = some (.int .i64 sent) ∧ W.cell? ⟨w.heap.size, 6, none⟩ = some (.int .i64 got) ∧ W.cell? ⟨w.heap.size, 7, none⟩ = some (.int .i64 cut)) := fun W hW => by
    have e := (hW.block _ (Array.getElem?_eq_some_iff.1 hbx).1).trans hbx
    refine ⟨?_, ?_, ?_, ?_, ?_, ?_, ?_, ?_⟩ <;> simp [World.cell?, e]
  have HB : Hid (Below w.heap.size w W0) := hb0
  clear hbx hb0
  obtain ⟨c0, c1, c2, c3, c4, c5, c6, c7⟩ := HC.out W0 (Below.refl _ _)
  go_wp2_with fail
  refine (Q1 _).mono ?_
  rintro e w1 ⟨rfl, hb1⟩
  obtain ⟨d0, d1, d2, d3, d4, d5, d6, d7⟩ := HC.out w1 hb1
  have H1 : Hid (Below w.heap.size w w1) := HB.out.trans (hb1.mono HB.out.size)
  clear hb1 c0 c1 c2 c3 c4 c5 c6 c7
  cases a
  · go_wp2
    go_ret
    exact ⟨rfl, H1.out⟩
  · go_wp2_with fail
    refine (Q2 _).mono ?_
    rintro e w2 ⟨rfl, hb2⟩
    have H2 : Hid (Below w.heap.size w w2) := H1.out.trans (hb2.mono H1.out.size)
    clear hb2
    go_wp2
    go_ret
    exact ⟨rfl, H2.out⟩
end Go.Proofs.YtagajindaipaeaaGreat
namespace Go.Proofs.YtagajindaipaeaaGreat
open Go.ChangeShapes Go.WideShapes Go.ChangeAt Go.RowKit
open Go.Lib (compareBytes)
theorem fl_two (w : World) (a b : Obj) : ((w.alloc a).alloc b).heap[w.heap.size]? = some a ∧ ((w.alloc a).alloc b).heap[w.heap.size + 1]? = some b := by
  have e : ((w.alloc a).alloc b).heap = (w.heap.push a).push b := rfl
  rw [e]
  simp only [Array.getElem?_push, Array.size_push]
  refine ⟨?_, ?_⟩
  · rw [if_neg (by omega), if_pos trivial]
  · rw [if_pos trivial]
theorem cell_new (W : World) (c : Array Value) (t i : Nat) (x : Value) (h : c[i]? = some x) : (W.alloc (.cells c t)).cell? ⟨W.heap.size, i, none⟩ = some x := by
  have e := World.alloc_heap_new W (.cells c t)
  unfold World.cell?
  rw [e]
  exact h
set_option maxRecDepth 100000 in
theorem compareString_any (a b : ByteArray) (w : World) : Calls Tryz.prog 171 #[.string a, .string b] w fun e w' => e = .returned (.int .i64 (compareBytes a.data.toList b.data.toList)) ∧ w' = w := by
  go_enter Tryz.func171, Tryz.ntmps171
  go_wp2
  rw [run_callFunc_extern Tryz.func190 (by kernel_rfl) (by kernel_rfl) (by kernel_rfl) (e := Extern.BytealgCompare.compare) (by kernel_rfl), Lib.run_compareString]
  simp only [Result.andThen]
  rw [Oper.upon_value]
  go_wp2
  go_ret
  exact ⟨rfl, rfl⟩
theorem compare_any (a b : ByteArray) (w : World) : Calls Tryz.prog 137 #[.string a, .string b] w fun e w' => e = .returned (.int .i64 (compareBytes a.data.toList b.data.toList)) ∧ w' = w := by
  go_enter Tryz.func137, Tryz.ntmps137
  go_wp2_with (go_at_call 171; refine (compareString_any _ _ _).mono ?_; rintro e w' ⟨rfl, rfl⟩)
  go_ret
  exact ⟨rfl, rfl⟩
theorem isNaN_any (x : Int) (w : World) : Calls Tryz.prog 182 #[.int .i64 x] w fun e w' => e = .returned (.bool false) ∧ w' = w := by
  go_enter Tryz.func182, Tryz.ntmps182
  go_wp2
  go_ret
  exact ⟨by first | rfl | simp, rfl⟩
theorem cmpI_any (x y : Int) (w : World) : Calls Tryz.prog 162 #[.int .i64 x, .int .i64 y] w fun e w' => e = .returned (.int .i64 (cmpZ x y)) ∧ w' = w := by
  rcases Int.lt_trichotomy x y with h | h | h
  · have HE : Hid (cmpZ x y = -1) := by show cmpZ x y = -1; unfold cmpZ; rw [if_pos h]
    go_enter Tryz.func162, Tryz.ntmps162
    go_wp2_with (go_at_call 182; refine (isNaN_any _ _).mono ?_; rintro e w' ⟨rfl, rfl⟩)
    go_ret
    exact ⟨by rw [HE.out]; rfl, rfl⟩
  · subst h
    have HE : Hid (cmpZ x x = 0) := by show cmpZ x x = 0; unfold cmpZ; rw [if_neg (by omega), if_neg (by omega)]
    go_enter Tryz.func162, Tryz.ntmps162
    go_wp2_with (go_at_call 182; refine (isNaN_any _ _).mono ?_; rintro e w' ⟨rfl, rfl⟩)
    go_ret
    exact ⟨by rw [HE.out]; rfl, rfl⟩
  · have HE : Hid (cmpZ x y = 1) := by show cmpZ x y = 1; unfold cmpZ; rw [if_neg (by omega), if_pos h]
    go_enter Tryz.func162, Tryz.ntmps162
    go_wp2_with (go_at_call 182; refine (isNaN_any _ _).mono ?_; rintro e w' ⟨rfl, rfl⟩)
    go_ret
    exact ⟨by rw [HE.out]; rfl, rfl⟩
set_option maxHeartbeats 1000000 in
/-- cmp.Or of three numbers. -/
theorem or3_any (x y z : Int) (B : Nat) (w : World) (h0 : w.cell? ⟨B, 0, none⟩ = some (.int .i64 x)) (h1 : w.cell? ⟨B, 1, none⟩ = some (.int .i64 y)) (h2 : w.cell? ⟨B, 2, none⟩ = some (.int .i64 z)) :
    Calls Tryz.prog 161 #[.slice (some ⟨B, 0, none⟩) 3 3] w fun e w' => e = .returned (.int .i64 (orZ x (orZ y z))) ∧ w' = w := by
  unfold orZ
  go_enter Tryz.func161, Tryz.ntmps161
  go_wp2
  by_cases hx : x = 0
  · subst hx
    by_cases hy : y = 0
    · subst hy
      by_cases hz : z = 0
      · subst hz
        go_loopw [8] (fun i wr => ∃ k : Nat, i = .int .i64 (k : Int) ∧ k ≤ 3 ∧ wr = w) (fun i _ => 3 - (intOf i).toNat)
        case atStart => exact ⟨0, rfl, by omega, rfl⟩
        case round =>
          obtain ⟨k, rfl, hk, rfl⟩ := hrel
          obtain rfl | rfl | rfl | rfl : k = 0 ∨ k = 1 ∨ k = 2 ∨ k = 3 := by omega
          · go_wp2
            go_roundw
            case rel => exact ⟨1, by go_num, by omega, trivial⟩
            case measure => simp [intOf]
          · go_wp2
            go_roundw
            case rel => exact ⟨2, by go_num, by omega, trivial⟩
            case measure => simp [intOf]
          · go_wp2
            go_roundw
            case rel => exact ⟨3, by go_num, by omega, trivial⟩
            case measure => simp [intOf]
          · go_wp2
            go_ret
            exact ⟨by first | rfl | simp, rfl⟩
      · go_loopw [8] (fun i wr => ∃ k : Nat, i = .int .i64 (k : Int) ∧ k ≤ 2 ∧ wr = w) (fun i _ => 3 - (intOf i).toNat)
        case atStart => exact ⟨0, rfl, by omega, rfl⟩
        case round =>
          obtain ⟨k, rfl, hk, rfl⟩ := hrel
          obtain rfl | rfl | rfl : k = 0 ∨ k = 1 ∨ k = 2 := by omega
          · go_wp2
            go_roundw
            case rel => exact ⟨1, by go_num, by omega, trivial⟩
            case measure => simp [intOf]
          · go_wp2
            go_roundw
            case rel => exact ⟨2, by go_num, by omega, trivial⟩
            case measure => simp [intOf]
          · go_wp2
            go_ret
            exact ⟨by first | rfl | simp, rfl⟩
    · go_loopw [8] (fun i wr => ∃ k : Nat, i = .int .i64 (k : Int) ∧ k ≤ 1 ∧ wr = w) (fun i _ => 3 - (intOf i).toNat)
      case atStart => exact ⟨0, rfl, by omega, rfl⟩
      case round =>
        obtain ⟨k, rfl, hk, rfl⟩ := hrel
        obtain rfl | rfl : k = 0 ∨ k = 1 := by omega
        · go_wp2
          go_roundw
          case rel => exact ⟨1, by go_num, by omega, trivial⟩
          case measure => simp [intOf]
        · go_wp2
          go_ret
          exact ⟨by first | rfl | simp, rfl⟩
  · go_loopw [8] (fun i wr => i = .int .i64 0 ∧ wr = w) (fun i _ => 3 - (intOf i).toNat)
    case atStart => exact ⟨rfl, rfl⟩
    case round =>
      obtain ⟨rfl, rfl⟩ := hrel
      go_wp2
      go_ret
      exact ⟨rfl, rfl⟩
set_option maxHeartbeats 4000000 in
/-- compare. -/
theorem lcmp_grows (a b : OLn) (w : World) : Calls Tryz.prog 160 #[.agg #[.string a.partner, .string a.ref, .int .i64 a.no, .string a.item, .int .i64 a.ordered, .int .i64 a.sent, .int .i64 a.got, .int .i64 a.cut], .agg #[.string b.partner, .string b.ref, .int .i64 b.no, .string b.item, .int .i64 b.ordered, .int .i64 b.sent, .int .i64 b.got, .int .i64 b.cut]] w fun e w' => e = .returned (.int .i64 (lcmp a b)) ∧ ∃ o1 o2 o3, w' = (((w.alloc o1).alloc o2).alloc o3).drew := by
  unfold lcmp
  obtain ⟨a_partner, a_ref, a_no, a_item, a_ordered, a_sent, a_got, a_cut⟩ := a
  obtain ⟨b_partner, b_ref, b_no, b_item, b_ordered, b_sent, b_got, b_cut⟩ := b
  dsimp only
  obtain ⟨W0, hW0⟩ : ∃ W0, ((w.alloc (.cells #[.string a_partner, .string a_ref, .int .i64 a_no, .string a_item, .int .i64 a_ordered, .int .i64 a_sent, .int .i64 a_got, .int .i64 a_cut] 173)).alloc (.cells #[.string b_partner, .string b_ref, .int .i64 b_no, .string b_item, .int .i64 b_ordered, .int .i64 b_sent, .int .i64 b_got, .int .i64 b_cut] 173)) = W0 := ⟨_, rfl⟩
  have HW : Hid (∃ o1 o2, W0 = (w.alloc o1).alloc o2) := ⟨_, _, hW0.symm⟩
  have hB : W0.heap.size = w.heap.size + 2 := by rw [← hW0]; simp
  go_enter Tryz.func160, Tryz.ntmps160
  go_upto_region 1 with fail
  try rw [hW0]
  obtain ⟨k0, k1⟩ := fl_two w (.cells #[.string a_partner, .string a_ref, .int .i64 a_no, .string a_item, .int .i64 a_ordered, .int .i64 a_sent, .int .i64 a_got, .int .i64 a_cut] 173) (.cells #[.string b_partner, .string b_ref, .int .i64 b_no, .string b_item, .int .i64 b_ordered, .int .i64 b_sent, .int .i64 b_got, .int .i64 b_cut] 173)
  rw [hW0] at k0 k1
  obtain ⟨z0, z1, z2, _⟩ := box8 k0
  obtain ⟨y0, y1, y2, _⟩ := box8 k1
  clear k0 k1 hW0
  have HN : Hid (∀ x y z : Int, (W0.alloc (.cells #[.int .i64 x, .int .i64 y, .int .i64 z] 3)).drew.cell? ⟨w.heap.size + 2, 0, none⟩ = some (.int .i64 x) ∧ (W0.alloc (.cells #[.int .i64 x, .int .i64 y, .int .i64 z] 3)).drew.cell? ⟨w.heap.size + 2, 1, none⟩ = some (.int .i64 y) ∧ (W0.alloc (.cells #[.int .i64 x, .int .i64 y, .int .i64 z] 3)).drew.cell? ⟨w.heap.size + 2, 2, none⟩ = some (.int .i64 z)) := fun x y z => by
    rw [← hB]
    exact ⟨cell_new W0 _ _ 0 _ rfl, cell_new W0 _ _ 1 _ rfl, cell_new W0 _ _ 2 _ rfl⟩
  go_region_held3 (fun W => W.cell? ⟨w.heap.size, 0, none⟩ = some (.string a_partner) ∧ W.cell? ⟨w.heap.size, 1, none⟩ = some (.string a_ref) ∧ W.cell? ⟨w.heap.size, 2, none⟩ = some (.int .i64 a_no) ∧ W.cell? ⟨w.heap.size + 1, 0, none⟩ = some (.string b_partner) ∧ W.cell? ⟨w.heap.size + 1, 1, none⟩ = some (.string b_ref) ∧ W.cell? ⟨w.heap.size + 1, 2, none⟩ = some (.int .i64 b_no)) (go_keep) (first | (go_at_call 137; refine (compare_any _ _ _).mono ?_; rintro e w2 ⟨rfl, rfl⟩) | (go_at_call 162; refine (cmpI_any _ _ _).mono ?_; rintro e w2 ⟨rfl, rfl⟩) | (go_at_call 161; refine (or3_any _ _ _ _ _ (HN.out _ _ _).1 (HN.out _ _ _).2.1 (HN.out _ _ _).2.2).mono ?_; rintro e w3 ⟨rfl, rfl⟩))
  rename_i hHeld
  clear hHeld
  go_wp2
  go_ret
  obtain ⟨o1, o2, e⟩ := HW.out
  exact ⟨rfl, o1, o2, _, by rw [e]⟩
theorem lcmp_any (a b : OLn) (w : World) : Calls Tryz.prog 160 #[.agg #[.string a.partner, .string a.ref, .int .i64 a.no, .string a.item, .int .i64 a.ordered, .int .i64 a.sent, .int .i64 a.got, .int .i64 a.cut], .agg #[.string b.partner, .string b.ref, .int .i64 b.no, .string b.item, .int .i64 b.ordered, .int .i64 b.sent, .int .i64 b.got, .int .i64 b.cut]] w fun e w' => e = .returned (.int .i64 (lcmp a b)) ∧ Below w.heap.size w w' :=
  (lcmp_grows a b w).mono fun _ _ ⟨he, o1, o2, o3, hw⟩ => ⟨he, by rw [hw]; exact ((((Below.refl _ _).alloc (Nat.le_refl _) _).alloc (by simp) _).alloc (by simp; omega) _).drew⟩
end Go.Proofs.YtagajindaipaeaaGreat
