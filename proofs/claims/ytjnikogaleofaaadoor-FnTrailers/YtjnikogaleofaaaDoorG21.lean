/- Texts of ours put together: HdP, RdBk. -/
import Derived.Test.YtjnikogaleofaaaDoorG18
import Derived.Test.YtjnikogaleofaaaDoorG19
import Derived.Test.YtjnikogaleofaaaDoorG17
import Derived.Test.YtjnikogaleofaaaDoorG11
import Derived.Test.YtjnikogaleofaaaDoorG12
import Derived.Test.YtjnikogaleofaaaDoorG20
namespace Go.Proofs.YtjnikogaleofaaaDoor
open Go.ChangeShapes Go.WideShapes Go.ChangeAt Go.RowKit
theorem dgVal_dec (u : Nat) : dgVal 0 (Lib.decDigits u) = u := by
  induction u using Nat.strongRecOn with
  | _ u ih =>
    by_cases h : u < 10
    · rw [Lib.decDigits_one h, dgVal_cons, dgVal_nil]
      rw [UInt8.toNat_ofNat']
      omega
    · rw [Lib.decDigits, dif_neg h, dgVal_snoc, ih (u / 10) (by omega)]
      rw [UInt8.toNat_ofNat']
      omega
theorem numT_dec {n : Int} (h : 0 < n) : numT (Lib.itoa n) = some n := by
  obtain ⟨k, rfl⟩ := Int.eq_ofNat_of_zero_le (Int.le_of_lt h)
  rw [Lib.itoa_nonneg]
  have hp := dec_plain k
  obtain ⟨hne, hall, _⟩ := plainD_facts hp
  have hh : (Lib.decDigits k).head? ≠ some 45 := by
    intro e
    cases hd : Lib.decDigits k with
    | nil => exact hne hd
    | cons c r =>
      rw [hd] at e hall
      simp only [List.head?_cons, Option.some.injEq] at e
      subst e
      simp [dgOk] at hall
  unfold numT
  rw [if_neg hh, if_pos hp, dgVal_dec]
theorem numT_itoa {l : List UInt8} {n : Int} (h : numT l = some n) (h0 : 0 < n) : Lib.itoa n = l := by
  unfold numT at h
  by_cases hh : l.head? = some 45
  · rw [if_pos hh] at h
    split at h
    · simp only [Option.some.injEq] at h
      omega
    · cases h
  · rw [if_neg hh] at h
    by_cases hp : plainD l = true
    · rw [if_pos hp] at h
      simp only [Option.some.injEq] at h
      rw [← h, Lib.itoa_nonneg]
      exact plain_dec hp
    · rw [if_neg hp] at h; cases h
theorem decS_of {c : ByteArray} {n : Int} (h : numT c.data.toList = some n) (h0 : 0 < n) : decS n = c := by
  have := numT_itoa h h0
  unfold decS
  rw [this]
theorem numT_decS {n : Int} (h : 0 < n) : numT (decS n).data.toList = some n := numT_dec h
/-- What a head tells. -/
def hdT (tag : ByteArray) (es : List (List ByteArray)) : Option (ByteArray × ByteArray × Int) :=
  if tag = tIXH then match es with
    | [[a], [b], [c]] => match numIn c.data.toList 1 999999 with
      | some n => if nameB a && nameB b then some (a, b, n) else none
      | none => none
    | _ => none
  else none
theorem hdT_some {tag : ByteArray} {es : List (List ByteArray)} {a b : ByteArray} {n : Int} (h : hdT tag es = some (a, b, n)) : tag = tIXH ∧ 1 ≤ n ∧ n ≤ 999999 ∧ es = [[a], [b], [decS n]] ∧ nameB a = true ∧ nameB b = true ∧ numT (decS n).data.toList = some n := by
  unfold hdT at h
  by_cases ht : tag = tIXH
  · rw [if_pos ht] at h
    split at h
    · rename_i a' b' c'
      cases hn : numIn c'.data.toList 1 999999 with
      | none => rw [hn] at h; cases h
      | some m =>
        rw [hn] at h
        simp only [] at h
        split at h
        · rename_i hab
          simp only [Option.some.injEq, Prod.mk.injEq] at h
          obtain ⟨rfl, rfl, rfl⟩ := h
          unfold numIn at hn
          cases hm : numT c'.data.toList with
          | none => rw [hm] at hn; cases hn
          | some v =>
            rw [hm] at hn
            simp only [] at hn
            split at hn
            · rename_i hv
              simp only [Option.some.injEq] at hn
              subst hn
              have := decS_of hm (by omega)
              simp only [Bool.and_eq_true] at hab
              exact ⟨ht, hv.1, hv.2, by rw [this], hab.1, hab.2, by rw [this]; exact hm⟩
            · cases hn
        · cases h
    · cases h
  · rw [if_neg ht] at h; cases h
theorem hdT_of {es : List (List ByteArray)} {a b : ByteArray} {n : Int} (h1 : 1 ≤ n) (h2 : n ≤ 999999) (he : es = [[a], [b], [decS n]]) (ha : nameB a = true) (hb : nameB b = true) : hdT tIXH es = some (a, b, n) := by
  subst he
  have : numIn (decS n).data.toList 1 999999 = some n := by
    unfold numIn
    rw [numT_decS (by omega)]
    simp only []
    rw [if_pos ⟨h1, h2⟩]
  unfold hdT
  rw [if_pos rfl]
  simp only [this, ha, hb, Bool.and_self, if_true]
/-- The answer: names, number, whether there is a head, code. -/
def hdO : List Seg → ByteArray × ByteArray × Int × Bool × Int
  | [] => (⟨#[]⟩, ⟨#[]⟩, 0, false, 6)
  | (tag, es) :: r => if 400 < r.length + 1 then (⟨#[]⟩, ⟨#[]⟩, 0, false, 2) else match hdT tag es with
    | some (a, b, n) => (a, b, n, true, 0)
    | none => (⟨#[]⟩, ⟨#[]⟩, 0, false, 3)
/-- As the value that HeadOf hands back. -/
def hdV (o : ByteArray × ByteArray × Int × Bool × Int) : Value := .agg #[.string o.1, .string o.2.1, .int .i64 o.2.2.1, .slice none 0 0, .bool o.2.2.2.1, .int .i64 0, .int .i64 o.2.2.2.2]
end Go.Proofs.YtjnikogaleofaaaDoor
namespace Go.Proofs.YtjnikogaleofaaaDoor
open Go.ChangeShapes Go.WideShapes Go.ChangeAt Go.RowKit
theorem numT_nought : numT (decS ((0 : Nat) : Int)).data.toList = some ((0 : Nat) : Int) := by
  have e : (decS ((0 : Nat) : Int)).data.toList = [48] := by
    have h : (decS ((0 : Nat) : Int)).data.toList = Lib.itoa ((0 : Nat) : Int) := by simp [decS]
    rw [h, Lib.itoa_nonneg, Lib.decDigits_one (by omega)]
    rfl
  rw [e]
  rfl
theorem numT_cnt (c : Nat) : numT (decS (c : Int)).data.toList = some (c : Int) := by
  by_cases h : 0 < c
  · exact numT_decS (by omega)
  · obtain rfl : c = 0 := by omega
    exact numT_nought
theorem endC_own (tag : ByteArray) {n : Int} (hn : 0 < n) (c : Nat) : endC n c (hdS tag [decS c, decS n]) = 0 := by
  simp [endC, hdS, numT_cnt, numT_decS hn]
theorem endC_77 (tag : ByteArray) {n : Int} (hn : 0 < n) {c : Nat} (hc : c ≠ 77) : endC n c (tag, [[⟨#[55, 55]⟩], [decS n]]) = 5 := by
  have h7 : numT (⟨#[55, 55]⟩ : ByteArray).data.toList = some 77 := by rfl
  have hne : (⟨#[55, 55]⟩ : ByteArray) ≠ decS (c : Int) := fun e => by
    have h := numT_cnt c
    rw [← e, h7] at h
    simp at h
    omega
  simp [endC, numT_decS hn, h7, hne]
/-- The state behind all, if no segment comes to a code. -/
def rdGo (num : Int) : List Seg → Nat → RdS → Option (Nat × RdS)
  | [], ph, s => some (ph, s)
  | g :: r, ph, s => match rdStep num ph s g with
    | .inl _ => none
    | .inr (ph', s') => rdGo num r ph' s'
theorem rdGo_app (num : Int) (a b : List Seg) : ∀ (ph : Nat) (s : RdS) (ph' : Nat) (s' : RdS), rdGo num a ph s = some (ph', s') → rdGo num (a ++ b) ph s = rdGo num b ph' s' := by
  induction a with
  | nil => intro ph s ph' s' h; simp [rdGo] at h; obtain ⟨rfl, rfl⟩ := h; rfl
  | cons g r ih =>
    intro ph s ph' s' h
    simp only [rdGo, List.cons_append] at h ⊢
    cases e : rdStep num ph s g with
    | inl c => rw [e] at h; cases h
    | inr x => rw [e] at h; exact ih _ _ _ _ h
theorem rdIx_app (num : Int) (a b : List Seg) : ∀ (ph : Nat) (s : RdS) (ph' : Nat) (s' : RdS), rdGo num a ph s = some (ph', s') → rdIx num (a ++ b) ph s = ((rdIx num b ph' s').1, a.length + (rdIx num b ph' s').2.1, (rdIx num b ph' s').2.2) := by
  induction a with
  | nil => intro ph s ph' s' h; simp [rdGo] at h; obtain ⟨rfl, rfl⟩ := h; simp
  | cons g r ih =>
    intro ph s ph' s' h
    simp only [rdGo, List.cons_append, rdIx] at h ⊢
    cases e : rdStep num ph s g with
    | inl c => rw [e] at h; cases h
    | inr x =>
      rw [e] at h
      simp only [ih _ _ _ _ h, List.length_cons]
      refine Prod.ext rfl (Prod.ext ?_ rfl)
      simp only
      omega
theorem go_one {num : Int} {g : Seg} {ph ph' : Nat} {s s' : RdS} (h : rdStep num ph s g = .inr (ph', s')) : rdGo num [g] ph s = some (ph', s') := by simp [rdGo, h]
theorem body_tag {g : Seg} (h : bodyB g = true) : g.1 ≠ ⟨#[77, 83, 84]⟩ := fun e => by
  simp [bodyB, ownT, e] at h
theorem go_body (num : Int) : ∀ (l : List Seg) (s : RdS), (∀ g ∈ l, bodyB g = true) → s.bd.length + l.length ≤ 40 → rdGo num l 2 s = some (2, { s with bd := s.bd ++ l })
  | [], s, _, _ => by simp [rdGo]
  | g :: r, s, h, hl => by
    have hg := h g (by simp)
    simp only [List.length_cons] at hl
    have e : rdStep num 2 s g = .inr (2, { s with bd := s.bd ++ [g] }) := by
      simp [rdStep, body_tag hg, hg]
      omega
    simp only [rdGo, e]
    rw [go_body num r _ (fun x hx => h x (List.mem_cons_of_mem _ hx)) (by simp; omega)]
    simp
theorem go_msg (num : Int) {m : Msg} (h : msgB m = true) (s : RdS) (hs : s.ms.length < 10) : rdGo num (msgSegs m) 1 s = some (1, { s with ms := s.ms ++ [m], mn := m.num, bd := m.body }) := by
  unfold msgB ctlB at h
  simp only [Bool.and_eq_true, decide_eq_true_eq, List.all_eq_true] at h
  obtain ⟨⟨h1, h2⟩, h3, h4⟩ := h
  have e0 : rdStep num 1 s (hdS tMSH [decS m.num]) = .inr (2, { s with mn := m.num, bd := [] }) := by
    have hm : hdMS (hdS tMSH [decS m.num]) = some m.num := by simp [hdMS, hdS, numIn, numT_decS (show 0 < m.num by omega), h1, h2]
    have t1 : (hdS tMSH [decS m.num]).1 ≠ ⟨#[71, 82, 84]⟩ := show tMSH ≠ _ by decide
    have t2 : (hdS tMSH [decS m.num]).1 = ⟨#[77, 83, 72]⟩ := rfl
    unfold rdStep
    rw [if_neg (by decide), if_pos rfl, if_neg t1, if_pos ⟨t2, by omega⟩, hm]
  have e2 : rdStep num 2 { s with mn := m.num, bd := m.body } (hdS tMST [decS m.body.length, decS m.num]) = .inr (1, { s with ms := s.ms ++ [m], mn := m.num, bd := m.body }) := by
    have t1 : (hdS tMST [decS m.body.length, decS m.num]).1 = ⟨#[77, 83, 84]⟩ := rfl
    unfold rdStep
    rw [if_neg (by decide), if_neg (by decide), if_pos rfl, if_pos t1, if_pos (endC_own _ (show (0 : Int) < m.num by omega) _)]
  unfold msgSegs
  have hb := go_body num m.body { s with mn := m.num, bd := [] } h4 (by simp; omega)
  simp only [rdGo, e0]
  rw [rdGo_app num _ _ _ _ _ _ hb]
  simp only [List.nil_append]
  exact go_one e2
theorem go_msgs (num : Int) : ∀ (l : List Msg) (s : RdS), (∀ m ∈ l, msgB m = true) → s.ms.length + l.length ≤ 10 → ∃ mn bd, rdGo num (l.flatMap msgSegs) 1 s = some (1, { s with ms := s.ms ++ l, mn := mn, bd := bd })
  | [], s, _, _ => ⟨s.mn, s.bd, by simp [rdGo]⟩
  | m :: r, s, h, hl => by
    simp only [List.length_cons] at hl
    have h1 := go_msg num (h m (by simp)) s (by omega)
    obtain ⟨mn, bd, h2⟩ := go_msgs num r { s with ms := s.ms ++ [m], mn := m.num, bd := m.body } (fun x hx => h x (List.mem_cons_of_mem _ hx)) (by simp; omega)
    refine ⟨mn, bd, ?_⟩
    rw [List.flatMap_cons, rdGo_app num _ _ _ _ _ _ h1, h2]
    simp
theorem go_bun (num : Int) {b : Bun} (h : bunB b = true) (s : RdS) (hs : s.bs.length < 5) : ∃ s', rdGo num (bunSegs b) 0 s = some (0, s') ∧ s'.bs = s.bs ++ [b] := by
  unfold bunB ctlB at h
  simp only [Bool.and_eq_true, decide_eq_true_eq, List.all_eq_true] at h
  obtain ⟨⟨h1, h2⟩, h3, h4, h5, h6, h7⟩ := h
  have e0 : rdStep num 0 s (hdS tGRH [decS b.kind, decS b.num]) = .inr (1, { s with k := b.kind, n := b.num, ms := [] }) := by
    have hm : hdGR (hdS tGRH [decS b.kind, decS b.num]) = some (b.kind, b.num) := by simp [hdGR, hdS, numIn, numT_decS (show 0 < b.num by omega), numT_decS (show 0 < b.kind by omega), h1, h2, h3, h4]
    have t1 : (hdS tGRH [decS b.kind, decS b.num]).1 ≠ ⟨#[73, 88, 84]⟩ := show tGRH ≠ _ by decide
    have t2 : (hdS tGRH [decS b.kind, decS b.num]).1 = ⟨#[71, 82, 72]⟩ := rfl
    unfold rdStep
    rw [if_pos rfl, if_neg t1, if_pos ⟨t2, by omega⟩, hm]
  obtain ⟨mn, bd, hb⟩ := go_msgs num b.msgs { s with k := b.kind, n := b.num, ms := [] } h7 (by simp; omega)
  have hne : b.msgs ≠ [] := fun e => by rw [e] at h5; simp at h5
  have e2 : rdStep num 1 { s with k := b.kind, n := b.num, ms := b.msgs, mn := mn, bd := bd } (hdS tGRT [decS b.msgs.length, decS b.num]) = .inr (0, ⟨s.bs ++ [b], b.kind, b.num, b.msgs, mn, bd⟩) := by
    have t1 : (hdS tGRT [decS b.msgs.length, decS b.num]).1 = ⟨#[71, 82, 84]⟩ := rfl
    unfold rdStep
    rw [if_neg (by decide), if_pos rfl, if_pos t1, if_neg hne, if_pos (endC_own _ (show (0 : Int) < b.num by omega) _)]
  refine ⟨⟨s.bs ++ [b], b.kind, b.num, b.msgs, mn, bd⟩, ?_, rfl⟩
  unfold bunSegs
  simp only [rdGo, e0]
  rw [rdGo_app num _ _ _ _ _ _ hb]
  simp only [List.nil_append]
  exact go_one e2
theorem go_buns (num : Int) : ∀ (l : List Bun) (s : RdS), (∀ b ∈ l, bunB b = true) → s.bs.length + l.length ≤ 5 → ∃ s', rdGo num (l.flatMap bunSegs) 0 s = some (0, s') ∧ s'.bs = s.bs ++ l
  | [], s, _, _ => ⟨s, by simp [rdGo], by simp⟩
  | b :: r, s, h, hl => by
    simp only [List.length_cons] at hl
    obtain ⟨s1, h1, g1⟩ := go_bun num (h b (by simp)) s (by omega)
    obtain ⟨s2, h2, g2⟩ := go_buns num r s1 (fun x hx => h x (List.mem_cons_of_mem _ hx)) (by rw [g1]; simp; omega)
    exact ⟨s2, by rw [List.flatMap_cons, rdGo_app num _ _ _ _ _ _ h1, h2], by rw [g2, g1]; simp⟩
/-- A right interchange is read back. -/
theorem go_ix {x : Ixc} (h : ixB x = true) : ∃ s', rdGo x.num (x.buns.flatMap bunSegs ++ [hdS tIXT [decS x.buns.length, decS x.num]]) 0 ⟨[], 0, 0, [], 0, []⟩ = some (3, s') ∧ s'.bs = x.buns := by
  unfold ixB ctlB at h
  simp only [Bool.and_eq_true, decide_eq_true_eq, List.all_eq_true] at h
  obtain ⟨⟨h1, h2⟩, h3, h4, h5, h6, h7⟩ := h
  obtain ⟨s1, e1, g1⟩ := go_buns x.num x.buns ⟨[], 0, 0, [], 0, []⟩ h7 (by simp; omega)
  simp only [List.nil_append] at g1
  have hne : s1.bs ≠ [] := fun e => by rw [g1] at e; rw [e] at h5; simp at h5
  have e2 : rdStep x.num 0 s1 (hdS tIXT [decS x.buns.length, decS x.num]) = .inr (3, s1) := by
    have t1 : (hdS tIXT [decS x.buns.length, decS x.num]).1 = ⟨#[73, 88, 84]⟩ := rfl
    unfold rdStep
    rw [if_pos rfl, if_pos t1, if_neg hne, if_pos (by rw [g1]; exact endC_own _ (by omega) _)]
  exact ⟨s1, by rw [rdGo_app x.num _ _ _ _ _ _ e1]; exact go_one e2, g1⟩
end Go.Proofs.YtjnikogaleofaaaDoor
