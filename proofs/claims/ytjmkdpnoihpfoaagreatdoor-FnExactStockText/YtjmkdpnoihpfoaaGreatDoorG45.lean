/- Texts of ours put together: BiQ. -/
import Derived.Test.YtjmkdpnoihpfoaaGreatDoorG21
import Derived.Test.YtjmkdpnoihpfoaaGreatDoorG10
import Derived.Deep.AppendLies
import Derived.BigFrame
namespace Go.Proofs.YtjmkdpnoihpfoaaGreatDoor
open Go.ChangeShapes Go.WideShapes Go.ChangeAt Go.RowKit
/-- Behind the last one of those so far? -/
def latB (outs : List ByteArray) (x : ByteArray) : Bool := match outs.getLast? with | none => true | some l => Op.bytesLess l.toList x.toList
theorem latB_nil (x : ByteArray) : latB [] x = true := rfl
theorem latB_app (os : List ByteArray) (l x : ByteArray) : latB (os ++ [l]) x = Op.bytesLess l.toList x.toList := by simp [latB]
theorem gtB (x l : ByteArray) : (!(Op.bytesLess x.toList l.toList || x.toList == l.toList)) = Op.bytesLess l.toList x.toList := by
  cases h : Op.bytesLess l.toList x.toList with
  | true => rw [bl_asymm h]; cases e : x.toList == l.toList with | false => rfl | true => rw [beq_iff_eq] at e; rw [e, bl_irrefl] at h; cases h
  | false =>
    cases h2 : Op.bytesLess x.toList l.toList with
    | true => rfl
    | false => rw [bl_tri h2 h]; simp
/-- What is told so far. -/
structure PO (ts outs : List ByteArray) : Prop where
  rise : RiseK (outs.map keyB)
  sub : ∀ x ∈ outs, x ∈ ts
  all : ∀ x ∈ ts, latB outs x = false → x ∈ outs
/-- The least one behind the last among the first k. -/
def NX (ts outs : List ByteArray) (k : Nat) (nx : ByteArray) : Prop :=
  (nx = ⟨#[]⟩ ∧ ∀ (j : Nat) (x : ByteArray), j < k → ts[j]? = some x → latB outs x = false) ∨
  (nx ≠ ⟨#[]⟩ ∧ nx ∈ ts ∧ latB outs nx = true ∧ ∀ (j : Nat) (x : ByteArray), j < k → ts[j]? = some x → latB outs x = true → Op.bytesLess x.toList nx.toList = false)
theorem kb_less (a b : ByteArray) : Op.bytesLess (keyB a) (keyB b) = Op.bytesLess a.toList b.toList := by rw [ByteArray.toList_eq, ByteArray.toList_eq]; rfl
theorem PO.nil (ts : List ByteArray) : PO ts [] := by
  refine ⟨by simp [RiseK], ?_, ?_⟩
  · intro x hx
    cases hx
  · intro x _ h
    cases h
theorem PO.next {ts outs : List ByteArray} {nx : ByteArray} (h : PO ts outs) (h1 : nx ∈ ts) (h2 : latB outs nx = true) (h3 : ∀ x ∈ ts, latB outs x = true → Op.bytesLess x.toList nx.toList = false) : PO ts (outs ++ [nx]) := by
  refine ⟨?_, fun x hx => ?_, fun x hx hl => ?_⟩
  · unfold RiseK
    rw [List.map_append, List.pairwise_append]
    refine ⟨h.rise, by simp, fun a ha b hb => ?_⟩
    simp only [List.map_cons, List.map_nil, List.mem_singleton] at hb
    obtain ⟨x, hx, rfl⟩ := List.mem_map.1 ha
    subst hb
    rw [kb_less]
    rcases List.eq_nil_or_concat outs with e | ⟨os, l, e⟩
    · rw [e] at hx; cases hx
    · rw [List.concat_eq_append] at e
      rw [e, latB_app] at h2
      rw [e] at hx
      rcases List.mem_append.1 hx with hx | hx
      · have hr := h.rise
        unfold RiseK at hr
        rw [e, List.map_append, List.pairwise_append] at hr
        have := hr.2.2 (keyB x) (List.mem_map.2 ⟨x, hx, rfl⟩) (keyB l) (by simp)
        rw [kb_less] at this
        exact bl_trans this h2
      · rw [List.mem_singleton.1 hx]
        exact h2
  · rcases List.mem_append.1 hx with hx | hx
    · exact h.sub x hx
    · rw [List.mem_singleton.1 hx]; exact h1
  · rw [latB_app] at hl
    cases e : latB outs x with
    | false => exact List.mem_append.2 (.inl (h.all x hx e))
    | true =>
      have h4 := h3 x hx e
      have : x = nx := ba_list (bl_tri h4 hl)
      simp [this]
theorem PO.len {ts outs : List ByteArray} (h : PO ts outs) : outs.length ≤ ts.length := by
  have := riseK_len (l := outs.map keyB) (all := ts.map keyB) h.rise fun x hx => by
    obtain ⟨y, hy, rfl⟩ := List.mem_map.1 hx
    exact List.mem_map.2 ⟨y, h.sub y hy, rfl⟩
  simpa using this
theorem PO.done {p : Bk} {outs : List ByteArray} (hb : bkB p = true) (h : PO (allT p) outs) (hn : ∀ x ∈ allT p, latB outs x = false) : itemsT p = outs := by
  refine itemsT_of hb h.rise fun x => ⟨fun hx => ?_, fun hx => ?_⟩
  · obtain ⟨y, hy, rfl⟩ := List.mem_map.1 hx
    exact List.mem_map.2 ⟨y, h.sub y hy, rfl⟩
  · obtain ⟨y, hy, rfl⟩ := List.mem_map.1 hx
    exact List.mem_map.2 ⟨y, h.all y hy (hn y hy), rfl⟩
theorem NX.zero (ts outs : List ByteArray) : NX ts outs 0 ⟨#[]⟩ := .inl ⟨rfl, fun j x hj => by omega⟩
theorem NX.skip {ts outs : List ByteArray} {k : Nat} {nx x : ByteArray} (h : NX ts outs k nx) (hx : ts[k]? = some x) (hs : latB outs x = false ∨ (nx ≠ ⟨#[]⟩ ∧ Op.bytesLess x.toList nx.toList = false)) : NX ts outs (k + 1) nx := by
  rcases h with ⟨h1, h2⟩ | ⟨h0, h1, h2, h3⟩
  · refine .inl ⟨h1, fun j y hj hy => ?_⟩
    rcases Nat.lt_or_ge j k with g | g
    · exact h2 j y g hy
    · obtain rfl : j = k := by omega
      rw [hx] at hy
      cases hy
      rcases hs with hs | hs
      · exact hs
      · exact absurd h1 hs.1
  · refine .inr ⟨h0, h1, h2, fun j y hj hy hl => ?_⟩
    rcases Nat.lt_or_ge j k with g | g
    · exact h3 j y g hy hl
    · obtain rfl : j = k := by omega
      rw [hx] at hy
      cases hy
      rcases hs with hs | hs
      · rw [hs] at hl; cases hl
      · exact hs.2
theorem NX.take {ts outs : List ByteArray} {k : Nat} {nx x : ByteArray} (h : NX ts outs k nx) (hx : ts[k]? = some x) (hne : x ≠ ⟨#[]⟩) (hl : latB outs x = true) (hs : nx = ⟨#[]⟩ ∨ Op.bytesLess x.toList nx.toList = true) : NX ts outs (k + 1) x := by
  refine .inr ⟨hne, List.mem_of_getElem? hx, hl, fun j y hj hy hly => ?_⟩
  rcases Nat.lt_or_ge j k with g | g
  · rcases h with ⟨h1, h2⟩ | ⟨h0, h1, h2, h3⟩
    · rw [h2 j y g hy] at hly; cases hly
    · rcases hs with hs | hs
      · exact absurd hs h0
      · cases e : Op.bytesLess y.toList x.toList with
        | false => rfl
        | true =>
          have := bl_trans e hs
          rw [h3 j y g hy hly] at this
          cases this
  · obtain rfl : j = k := by omega
    rw [hx] at hy
    cases hy
    exact bl_irrefl _
theorem name_ne {t : ByteArray} (h : nameB t = true) : t ≠ ⟨#[]⟩ := fun e => by
  have := (nameB_sizes h).1
  rw [e] at this
  exact absurd this (by decide)
theorem isE {t : ByteArray} : t.toList.isEmpty = true ↔ t = ⟨#[]⟩ := by
  rw [List.isEmpty_iff]
  constructor
  · intro h
    exact ba_list (by rw [h, ByteArray.toList_eq])
  · rintro rfl
    rw [ByteArray.toList_eq]
def slLen : Value → Nat
  | .slice _ n _ => n
  | _ => 0
/-- An append of one text: the row's block, too. -/
theorem wpList_appTy {ops : Array Oper} {rest : List Oper} {o : Oper} {a : Act} {Q : Exit → Act → World → Prop} {W : World} {base c C : Nat} {lv : Value} {ss : List ByteArray} {t : ByteArray} (hw : Region.wanted o (yielded ops a.tmps) = true) (s x : Operand)
    (ho : o.op = .call { callee := .builtin .append, args := #[s, x], argTypes := #[38, 38] })
    (hs' : a.eval s = lv) (hx : a.eval x = .slice (some ⟨c, 0, none⟩) 1 C) (h : W.ownsRow base 9 1 lv ss.length (ss.map Value.string)) (hg : W.cell? ⟨c, 0, none⟩ = some (.string t)) (hl : ss.length + 1 ≤ 2000000) (hbase : base ≤ W.heap.size)
    (k : ∀ g cap w', w'.ownsRow base 9 1 (.slice (some ⟨g, 0, none⟩) (ss.length + 1) cap) (ss.length + 1) ((ss ++ [t]).map Value.string) → W.grownBy w' lv.ownBlock → (lv.ownBlock = some g ∨ g = W.heap.size) → wpList Tryz.prog ops Q rest (a.put o.dst (.slice (some ⟨g, 0, none⟩) (ss.length + 1) cap)) w') : wpList Tryz.prog ops Q (o :: rest) a W := by
  obtain ⟨i0, hi, hz0, hz1, hz2⟩ := info_parts infoTx
  refine BigFrame.wpList_want hw fun _ hK => ?_
  refine wp_append_lies W s x 38 ho base 9 i0 (.string ⟨#[]⟩) 1 16 Tryz.underlying38 hi hz0 hz1 hz2 rfl (by decide) lv ss.length (ss.map Value.string) hs' h ⟨c, 0, none⟩ 1 C [.string t] hx rfl (fun j u hu => ?_) (fun u hu => ?_) (by omega) (by unfold maxLen; omega) (by omega) hbase _ rfl ?_
  · have hj := (List.getElem?_eq_some_iff.1 hu).1
    have hj1 : j < 1 := hj
    obtain rfl : j = 0 := by omega
    simp only [List.getElem?_cons_zero, Option.some.injEq] at hu
    subst hu
    rw [fl_addr]
    exact hg
  · rw [List.mem_singleton.1 hu]
    rfl
  · intro g cap w' hown hgrow h1 _
    refine hK _ _ (k g cap w' ?_ hgrow h1)
    rw [List.map_append]
    exact hown
end Go.Proofs.YtjmkdpnoihpfoaaGreatDoor
