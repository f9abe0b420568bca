/- Texts of ours put together: TkB. -/
import Derived.Test.YtiakkpglnijapaaG29
import Derived.Test.YtiakkpglnijapaaG05
import Derived.Test.YtiakkpglnijapaaG13
import Derived.Test.YtiakkpglnijapaaG40
import Derived.Deep.AppendLies
namespace Go.Proofs.Ytiakkpglnijapaa
open Go.ChangeShapes Go.WideShapes Go.ChangeAt Go.RowKit
theorem step_appOu {ops : Array Oper} {o : Oper} {a : Act} {K : Act → World → Prop} {Q : Exit → Act → World → Prop} {E : Prop} {W : World} {base c C : Nat} {lv : Value} {rs : List OutR} {g : OutR} (hgd : o.guard = none) (s x : Operand)
    (ho : o.op = .call { callee := .builtin .append, args := #[s, x], argTypes := #[23, 23] })
    (hs' : a.eval s = lv) (hx : a.eval x = .slice (some ⟨c, 0, none⟩) 1 C) (h : W.ownsRow base 25 5 lv rs.length (clOus rs)) (hg : AtOu W c 0 g) (hl : rs.length + 1 ≤ 1000000) (hbase : base ≤ W.heap.size)
    (k : ∀ gg cap w', w'.ownsRow base 25 5 (.slice (some ⟨gg, 0, none⟩) (rs ++ [g]).length cap) (rs ++ [g]).length (clOus (rs ++ [g])) → W.grownBy w' lv.ownBlock → (lv.ownBlock = some gg ∨ gg = W.heap.size) → K (a.put o.dst (.slice (some ⟨gg, 0, none⟩) (rs ++ [g]).length cap)) w') : if Region.wanted o (yielded ops a.tmps) = true then Oper.wp Try.prog o a W K Q else E := by
  obtain ⟨i0, hi, hz0, hz1, hz2⟩ := info_parts infoOuA
  obtain ⟨q0, q1, q2, q3, q4⟩ := hg
  have e1 : (rs ++ [g]).length = rs.length + 1 := by simp
  rw [e1] at k
  refine step_append_lies W hgd s x 23 ho base 25 i0 (.agg #[.string ⟨#[]⟩, .int .i64 0, .string ⟨#[]⟩, .int .i64 0, .int .i64 0]) 5 56 Try.underlying23 hi hz0 hz1 hz2 rfl (by decide) lv rs.length (clOus rs) hs' h ⟨c, 0, none⟩ 1 C (clOu g) hx rfl (fun j u hu => ?_) (fun u hu => ?_) (by omega) (by unfold maxLen; omega) (by omega) hbase _ rfl ?_
  · rw [fl_addr]
    have hj := (List.getElem?_eq_some_iff.1 hu).1
    have hj3 : j < 5 := hj
    match j, hj3 with
    | 0, _ =>
      cases hu
      simpa using q0
    | 1, _ =>
      cases hu
      simpa using q1
    | 2, _ =>
      cases hu
      simpa using q2
    | 3, _ =>
      cases hu
      simpa using q3
    | 4, _ =>
      cases hu
      simpa using q4
  · simp only [clOu, List.mem_cons, List.not_mem_nil, or_false] at hu
    rcases hu with rfl | rfl | rfl | rfl | rfl <;> rfl
  · intro gg cap w' hown hgrow hor _
    rw [← clOus_app] at hown
    exact k gg cap w' hown hgrow hor
theorem wpList_lieOu {ops : Array Oper} {rest : List Oper} {o : Oper} {a : Act} {Q : Exit → Act → World → Prop} {W : World} {base c C : Nat} {lv : Value} {rs : List OutR} {g : OutR} (hgd : o.guard = none) (s x : Operand)
    (ho : o.op = .call { callee := .builtin .append, args := #[s, x], argTypes := #[23, 23] })
    (hs' : a.eval s = lv) (hx : a.eval x = .slice (some ⟨c, 0, none⟩) 1 C) (h : W.ownsRow base 25 5 lv rs.length (clOus rs)) (hg : AtOu W c 0 g) (hl : rs.length + 1 ≤ 1000000) (hbase : base ≤ W.heap.size)
    (k : ∀ gg cap w', w'.ownsRow base 25 5 (.slice (some ⟨gg, 0, none⟩) (rs ++ [g]).length cap) (rs ++ [g]).length (clOus (rs ++ [g])) → W.grownBy w' lv.ownBlock → (lv.ownBlock = some gg ∨ gg = W.heap.size) → wpList Try.prog ops Q rest (a.put o.dst (.slice (some ⟨gg, 0, none⟩) (rs ++ [g]).length cap)) w') : wpList Try.prog ops Q (o :: rest) a W := by
  obtain ⟨i0, hi, hz0, hz1, hz2⟩ := info_parts infoOuA
  obtain ⟨q0, q1, q2, q3, q4⟩ := hg
  have e1 : (rs ++ [g]).length = rs.length + 1 := by simp
  rw [e1] at k
  refine wpList_append_lies W hgd s x 23 ho base 25 i0 (.agg #[.string ⟨#[]⟩, .int .i64 0, .string ⟨#[]⟩, .int .i64 0, .int .i64 0]) 5 56 Try.underlying23 hi hz0 hz1 hz2 rfl (by decide) lv rs.length (clOus rs) hs' h ⟨c, 0, none⟩ 1 C (clOu g) hx rfl (fun j u hu => ?_) (fun u hu => ?_) (by omega) (by unfold maxLen; omega) (by omega) hbase _ rfl ?_
  · rw [fl_addr]
    have hj := (List.getElem?_eq_some_iff.1 hu).1
    have hj3 : j < 5 := hj
    match j, hj3 with
    | 0, _ =>
      cases hu
      simpa using q0
    | 1, _ =>
      cases hu
      simpa using q1
    | 2, _ =>
      cases hu
      simpa using q2
    | 3, _ =>
      cases hu
      simpa using q3
    | 4, _ =>
      cases hu
      simpa using q4
  · simp only [clOu, List.mem_cons, List.not_mem_nil, or_false] at hu
    rcases hu with rfl | rfl | rfl | rfl | rfl <;> rfl
  · intro gg cap w' hown hgrow hor _
    rw [← clOus_app] at hown
    exact k gg cap w' hown hgrow hor
theorem step_appSe {ops : Array Oper} {o : Oper} {a : Act} {K : Act → World → Prop} {Q : Exit → Act → World → Prop} {E : Prop} {W : World} {base c C : Nat} {lv : Value} {rs : List SenR} {g : SenR} (hgd : o.guard = none) (s x : Operand)
    (ho : o.op = .call { callee := .builtin .append, args := #[s, x], argTypes := #[28, 28] })
    (hs' : a.eval s = lv) (hx : a.eval x = .slice (some ⟨c, 0, none⟩) 1 C) (h : W.ownsRow base 66 3 lv rs.length (clSes rs)) (hg : AtSe W c 0 g) (hl : rs.length + 1 ≤ 1000000) (hbase : base ≤ W.heap.size)
    (k : ∀ gg cap w', w'.ownsRow base 66 3 (.slice (some ⟨gg, 0, none⟩) (rs ++ [g]).length cap) (rs ++ [g]).length (clSes (rs ++ [g])) → W.grownBy w' lv.ownBlock → (lv.ownBlock = some gg ∨ gg = W.heap.size) → K (a.put o.dst (.slice (some ⟨gg, 0, none⟩) (rs ++ [g]).length cap)) w') : if Region.wanted o (yielded ops a.tmps) = true then Oper.wp Try.prog o a W K Q else E := by
  obtain ⟨i0, hi, hz0, hz1, hz2⟩ := info_parts infoSeA
  obtain ⟨q0, q1, q2⟩ := hg
  have e1 : (rs ++ [g]).length = rs.length + 1 := by simp
  rw [e1] at k
  refine step_append_lies W hgd s x 28 ho base 66 i0 (.agg #[.string ⟨#[]⟩, .int .i64 0, .string ⟨#[]⟩]) 3 40 Try.underlying28 hi hz0 hz1 hz2 rfl (by decide) lv rs.length (clSes rs) hs' h ⟨c, 0, none⟩ 1 C (clSe g) hx rfl (fun j u hu => ?_) (fun u hu => ?_) (by omega) (by unfold maxLen; omega) (by omega) hbase _ rfl ?_
  · rw [fl_addr]
    have hj := (List.getElem?_eq_some_iff.1 hu).1
    have hj3 : j < 3 := hj
    match j, hj3 with
    | 0, _ =>
      cases hu
      simpa using q0
    | 1, _ =>
      cases hu
      simpa using q1
    | 2, _ =>
      cases hu
      simpa using q2
  · simp only [clSe, List.mem_cons, List.not_mem_nil, or_false] at hu
    rcases hu with rfl | rfl | rfl <;> rfl
  · intro gg cap w' hown hgrow hor _
    rw [← clSes_app] at hown
    exact k gg cap w' hown hgrow hor
theorem wpList_lieSe {ops : Array Oper} {rest : List Oper} {o : Oper} {a : Act} {Q : Exit → Act → World → Prop} {W : World} {base c C : Nat} {lv : Value} {rs : List SenR} {g : SenR} (hgd : o.guard = none) (s x : Operand)
    (ho : o.op = .call { callee := .builtin .append, args := #[s, x], argTypes := #[28, 28] })
    (hs' : a.eval s = lv) (hx : a.eval x = .slice (some ⟨c, 0, none⟩) 1 C) (h : W.ownsRow base 66 3 lv rs.length (clSes rs)) (hg : AtSe W c 0 g) (hl : rs.length + 1 ≤ 1000000) (hbase : base ≤ W.heap.size)
    (k : ∀ gg cap w', w'.ownsRow base 66 3 (.slice (some ⟨gg, 0, none⟩) (rs ++ [g]).length cap) (rs ++ [g]).length (clSes (rs ++ [g])) → W.grownBy w' lv.ownBlock → (lv.ownBlock = some gg ∨ gg = W.heap.size) → wpList Try.prog ops Q rest (a.put o.dst (.slice (some ⟨gg, 0, none⟩) (rs ++ [g]).length cap)) w') : wpList Try.prog ops Q (o :: rest) a W := by
  obtain ⟨i0, hi, hz0, hz1, hz2⟩ := info_parts infoSeA
  obtain ⟨q0, q1, q2⟩ := hg
  have e1 : (rs ++ [g]).length = rs.length + 1 := by simp
  rw [e1] at k
  refine wpList_append_lies W hgd s x 28 ho base 66 i0 (.agg #[.string ⟨#[]⟩, .int .i64 0, .string ⟨#[]⟩]) 3 40 Try.underlying28 hi hz0 hz1 hz2 rfl (by decide) lv rs.length (clSes rs) hs' h ⟨c, 0, none⟩ 1 C (clSe g) hx rfl (fun j u hu => ?_) (fun u hu => ?_) (by omega) (by unfold maxLen; omega) (by omega) hbase _ rfl ?_
  · rw [fl_addr]
    have hj := (List.getElem?_eq_some_iff.1 hu).1
    have hj3 : j < 3 := hj
    match j, hj3 with
    | 0, _ =>
      cases hu
      simpa using q0
    | 1, _ =>
      cases hu
      simpa using q1
    | 2, _ =>
      cases hu
      simpa using q2
  · simp only [clSe, List.mem_cons, List.not_mem_nil, or_false] at hu
    rcases hu with rfl | rfl | rfl <;> rfl
  · intro gg cap w' hown hgrow hor _
    rw [← clSes_app] at hown
    exact k gg cap w' hown hgrow hor
theorem own_below {B e K n : Nat} {W W' : World} {v : Value} {xs : List Value} (h : W.ownsRow B e K v n xs) (hb : Below W.heap.size W W') : W'.ownsRow B e K v n xs := by
  refine h.kept (row := none) ⟨hb.os, hb.tape, hb.output, hb.size, fun j hj _ => hb.block j hj⟩ ?_
  rcases h.2 with ⟨e, _⟩ | ⟨g, cap, cur, e, _⟩
  · exact .inl (by rw [e]; rfl)
  · exact .inr (by rw [e]; simp [Value.ownBlock])
theorem own_block {B e K n : Nat} {W W' : World} {v : Value} {xs : List Value} (h : W.ownsRow B e K v n xs) (hk : ∀ g, v.ownBlock = some g → W'.heap[g]? = W.heap[g]?) : W'.ownsRow B e K v n xs := by
  refine ⟨h.1, ?_⟩
  rcases h.2 with ⟨e, h0⟩ | ⟨g, cap, cur, rfl, h1, h2, h3⟩
  · exact .inl ⟨e, h0⟩
  · exact .inr ⟨g, cap, cur, rfl, h1, (hk g rfl).trans h2, h3⟩
theorem own_type {B B' e e' K K' n n' : Nat} {W : World} {v v' : Value} {xs xs' : List Value} (h : W.ownsRow B e K v n xs) (h' : W.ownsRow B' e' K' v' n' xs') (hne : e ≠ e') : v.ownBlock = none ∨ v.ownBlock ≠ v'.ownBlock := by
  rcases h.2 with ⟨rfl, _⟩ | ⟨g, cap, cur, rfl, _, h2, _⟩
  · exact .inl rfl
  · right
    rcases h'.2 with ⟨rfl, _⟩ | ⟨g', cap', cur', rfl, _, h2', _⟩
    · simp [Value.ownBlock]
    · intro e
      simp only [Value.ownBlock, Option.some.injEq] at e
      subst e
      have := h2.symm.trans h2'
      simp only [Option.some.injEq, Obj.cells.injEq] at this
      exact hne this.2.1
theorem own_apart {B e K n b t : Nat} {W : World} {v : Value} {xs : List Value} {cs : Array Value} (h : W.ownsRow B e K v n xs) (hb : W.heap[b]? = some (.cells cs t)) (hne : e ≠ t) : v.ownBlock ≠ some b := fun hv => by
  rcases h.2 with ⟨rfl, _⟩ | ⟨g, cap, cur, rfl, _, h2, _⟩
  · cases hv
  · simp only [Value.ownBlock, Option.some.injEq] at hv
    subst hv
    have := h2.symm.trans hb
    simp only [Option.some.injEq, Obj.cells.injEq] at this
    exact hne this.2.1
/-- The box X of an answer whose lists grow in rows from block N on; what lay below N is as it was, but for the box. -/
structure TQ (X N : Nat) (w1 W : World) (v1 v2 v3 : Value) (L : List OutR) (S : List SenR) (M : List OutR) : Prop where
  kp : Keep X w1 W
  sz : w1.heap.size = N
  xN : X < N
  bx : W.heap[X]? = some (.cells #[v1, v2, v3, .int .i64 0] 30)
  r1 : W.ownsRow N 25 5 v1 L.length (clOus L)
  r2 : W.ownsRow N 66 3 v2 S.length (clSes S)
  r3 : W.ownsRow N 25 5 v3 M.length (clOus M)
  ne : v1.ownBlock = none ∨ v1.ownBlock ≠ v3.ownBlock
section
variable {X N : Nat} {w1 W W' : World} {v1 v2 v3 : Value} {L : List OutR} {S : List SenR} {M : List OutR}
theorem TQ.le (h : TQ X N w1 W v1 v2 v3 L S M) : N ≤ W.heap.size := by rw [← h.sz]; exact h.kp.size
theorem TQ.below (h : TQ X N w1 W v1 v2 v3 L S M) (hb : Below W.heap.size W W') : TQ X N w1 W' v1 v2 v3 L S M :=
  ⟨h.kp.trans (Keep.of_below hb), h.sz, h.xN, (hb.block _ (Array.getElem?_eq_some_iff.1 h.bx).1).trans h.bx, own_below h.r1 hb, own_below h.r2 hb, own_below h.r3 hb, h.ne⟩
theorem ne_comm' {a b : Option Nat} (h : a = none ∨ a ≠ b) : b = none ∨ b ≠ a := by
  cases b with
  | none => exact .inl rfl
  | some b =>
    right
    rcases h with rfl | h
    · simp
    · exact fun e => h e.symm
theorem own_X {B e K n : Nat} {v : Value} {xs : List Value} (h : W.ownsRow B e K v n xs) (hX : X < B) : v.ownBlock = none ∨ v.ownBlock ≠ some X := by
  cases hv : v.ownBlock with
  | none => exact .inl rfl
  | some g =>
    right
    have := (h.lt g hv).1
    intro e
    simp only [Option.some.injEq] at e
    omega
/-- Behind an append that left box X as it was. -/
theorem TQ.grown (h : TQ X N w1 W v1 v2 v3 L S M) {row : Option Nat} (hg : W.grownBy W' row) (hrow : ∀ g, row = some g → N ≤ g) : Keep X w1 W' ∧ W'.heap[X]? = some (.cells #[v1, v2, v3, .int .i64 0] 30) := by
  have hlt := (Array.getElem?_eq_some_iff.1 h.bx).1
  have hx := h.xN
  have hs := h.sz
  have hle := h.le
  refine ⟨⟨hg.os.trans h.kp.os, hg.tape.trans h.kp.tape, hg.output.trans h.kp.output, Nat.le_trans h.kp.size hg.size, fun k hk hne => ?_⟩, (hg.block X hlt (fun e => by have := hrow X e.symm; omega)).trans h.bx⟩
  exact (hg.block k (by omega) (fun e => by have := hrow k e.symm; omega)).trans (h.kp.block k hk hne)
theorem own_setX {B e K n i : Nat} {v x : Value} {xs : List Value} (h : W.ownsRow B e K v n xs) (hX : X < B) : (W.setCell ⟨X, i, none⟩ x).ownsRow B e K v n xs :=
  own_block h fun g hg => set_other W g X i x (by have := (h.lt g hg).1; omega)
theorem TQ.app1 (h : TQ X N w1 W v1 v2 v3 L S M) {c : OutR} {gg cap : Nat} (ho : W'.ownsRow N 25 5 (.slice (some ⟨gg, 0, none⟩) (L ++ [c]).length cap) (L ++ [c]).length (clOus (L ++ [c]))) (hg : W.grownBy W' v1.ownBlock) (hor : v1.ownBlock = some gg ∨ gg = W.heap.size) :
    TQ X N w1 (W'.setCell ⟨X, 0, none⟩ (.slice (some ⟨gg, 0, none⟩) (L ++ [c]).length cap)) (.slice (some ⟨gg, 0, none⟩) (L ++ [c]).length cap) v2 v3 (L ++ [c]) S M := by
  obtain ⟨k, bx⟩ := h.grown hg (fun g e => (h.r1.lt g e).1)
  refine ⟨k.setCell _ _, h.sz, h.xN, by simp [World.setCell, Array.getElem?_modify, bx], own_setX ho h.xN, own_setX (h.r2.kept hg (own_type h.r2 h.r1 (by decide))) h.xN, own_setX (h.r3.kept hg (ne_comm' h.ne)) h.xN, .inr fun e => ?_⟩
  have e' : v3.ownBlock = some gg := e.symm
  rcases hor with h1 | h1
  · rcases h.ne with h2 | h2
    · rw [h2] at h1; cases h1
    · exact h2 (h1.trans e'.symm)
  · have := (h.r3.lt gg e').2
    omega
theorem TQ.app3 (h : TQ X N w1 W v1 v2 v3 L S M) {c : OutR} {gg cap : Nat} (ho : W'.ownsRow N 25 5 (.slice (some ⟨gg, 0, none⟩) (M ++ [c]).length cap) (M ++ [c]).length (clOus (M ++ [c]))) (hg : W.grownBy W' v3.ownBlock) (hor : v3.ownBlock = some gg ∨ gg = W.heap.size) :
    TQ X N w1 (W'.setCell ⟨X, 2, none⟩ (.slice (some ⟨gg, 0, none⟩) (M ++ [c]).length cap)) v1 v2 (.slice (some ⟨gg, 0, none⟩) (M ++ [c]).length cap) L S (M ++ [c]) := by
  obtain ⟨k, bx⟩ := h.grown hg (fun g e => (h.r3.lt g e).1)
  refine ⟨k.setCell _ _, h.sz, h.xN, by simp [World.setCell, Array.getElem?_modify, bx], own_setX (h.r1.kept hg h.ne) h.xN, own_setX (h.r2.kept hg (own_type h.r2 h.r3 (by decide))) h.xN, own_setX ho h.xN, ?_⟩
  cases hv : v1.ownBlock with
  | none => exact .inl rfl
  | some g =>
    refine .inr fun e => ?_
    simp only [Value.ownBlock, Option.some.injEq] at e
    subst e
    rcases hor with h1 | h1
    · rcases h.ne with h2 | h2
      · rw [h2] at hv; cases hv
      · exact h2 (hv.trans h1.symm)
    · have := (h.r1.lt g hv).2
      omega
theorem TQ.app2 (h : TQ X N w1 W v1 v2 v3 L S M) {c : SenR} {gg cap : Nat} (ho : W'.ownsRow N 66 3 (.slice (some ⟨gg, 0, none⟩) (S ++ [c]).length cap) (S ++ [c]).length (clSes (S ++ [c]))) (hg : W.grownBy W' v2.ownBlock) :
    TQ X N w1 (W'.setCell ⟨X, 1, none⟩ (.slice (some ⟨gg, 0, none⟩) (S ++ [c]).length cap)) v1 (.slice (some ⟨gg, 0, none⟩) (S ++ [c]).length cap) v3 L (S ++ [c]) M := by
  obtain ⟨k, bx⟩ := h.grown hg (fun g e => (h.r2.lt g e).1)
  exact ⟨k.setCell _ _, h.sz, h.xN, by simp [World.setCell, Array.getElem?_modify, bx], own_setX (h.r1.kept hg (own_type h.r1 h.r2 (by decide))) h.xN, own_setX ho h.xN, own_setX (h.r3.kept hg (own_type h.r3 h.r2 (by decide))) h.xN, h.ne⟩
theorem TQ.setB (h : TQ X N w1 W v1 v2 v3 L S M) {B : Nat} (hB : N ≤ B) (h1 : v1.ownBlock ≠ some B) (h2 : v2.ownBlock ≠ some B) (h3 : v3.ownBlock ≠ some B) (i : Nat) (x : Value) : TQ X N w1 (W.setCell ⟨B, i, none⟩ x) v1 v2 v3 L S M := by
  have hx := h.xN
  have hs := h.sz
  refine ⟨h.kp.setNew B i (by omega) x, h.sz, h.xN, (set_other W X B i x (by omega)).trans h.bx, own_block h.r1 fun g hg => set_other W g B i x (fun e => h1 (e ▸ hg)), own_block h.r2 fun g hg => set_other W g B i x (fun e => h2 (e ▸ hg)), own_block h.r3 fun g hg => set_other W g B i x (fun e => h3 (e ▸ hg)), h.ne⟩
theorem own_lt {B e K n C : Nat} {v : Value} {xs : List Value} (h : W.ownsRow B e K v n xs) (hC : C = W.heap.size) : v.ownBlock ≠ some C := fun hv => by
  have := (h.lt C hv).2
  omega
/-- The lists lie in blocks of their own. -/
theorem TQ.lists (h : TQ X N w1 W v1 v2 v3 L S M) (hl : L.length ≤ 1000 ∧ S.length ≤ 1000 ∧ M.length ≤ 1000) (hz : (∀ x ∈ L, x.partner.size ≤ 9223372036854775807 ∧ x.text.size ≤ 9223372036854775807) ∧ (∀ x ∈ S, x.partner.size ≤ 9223372036854775807 ∧ x.text.size ≤ 9223372036854775807) ∧ (∀ x ∈ M, x.partner.size ≤ 9223372036854775807 ∧ x.text.size ≤ 9223372036854775807)) (z : Int) : ∃ b1 b2 b3, N ≤ b1 ∧ N ≤ b2 ∧ N ≤ b3 ∧ LOo b1 b2 b3 W v1 v2 v3 ⟨L, S, M, z⟩ := by
  obtain ⟨b1, g1, l1⟩ := LOu.of_owns h.r1 (by omega) (fun i g hi => hz.1 g (List.mem_of_getElem? hi))
  obtain ⟨b2, g2, l2⟩ := LSe.of_owns h.r2 (by omega) (fun i g hi => hz.2.1 g (List.mem_of_getElem? hi))
  obtain ⟨b3, g3, l3⟩ := LOu.of_owns h.r3 (by omega) (fun i g hi => hz.2.2 g (List.mem_of_getElem? hi))
  have hv : ∀ {b : Nat} {v : Value} {Q : List OutR}, LOu b W v Q → Q ≠ [] → ∃ cap, v = .slice (some ⟨b, 0, none⟩) Q.length cap := fun l hn => by
    obtain ⟨a, cap, e, hc⟩ := l.shape
    obtain ⟨rfl, _⟩ := hc hn
    exact ⟨cap, e⟩
  refine ⟨b1, b2, b3, g1, g2, g3, ⟨l1, l2, l3, fun h1 h3 e => ?_⟩⟩
  obtain ⟨c1, e1⟩ := hv l1 h1
  obtain ⟨c3, e3⟩ := hv l3 h3
  rcases h.ne with h2 | h2
  · rw [e1] at h2; cases h2
  · exact h2 (by rw [e1, e3, e]; rfl)
/-- The lists read. -/
theorem TQ.row (h : TQ X N w1 W v1 v2 v3 L S M) (hl : L.length ≤ 1000 ∧ S.length ≤ 1000 ∧ M.length ≤ 1000) (hz : (∀ x ∈ L, x.partner.size ≤ 9223372036854775807 ∧ x.text.size ≤ 9223372036854775807) ∧ (∀ x ∈ S, x.partner.size ≤ 9223372036854775807 ∧ x.text.size ≤ 9223372036854775807) ∧ (∀ x ∈ M, x.partner.size ≤ 9223372036854775807 ∧ x.text.size ≤ 9223372036854775807)) (z : Int) : ROo W v1 v2 v3 ⟨L, S, M, z⟩ := by
  obtain ⟨b1, _, l1⟩ := LOu.of_owns h.r1 (by omega) (fun i g hi => hz.1 g (List.mem_of_getElem? hi))
  obtain ⟨b2, _, l2⟩ := LSe.of_owns h.r2 (by omega) (fun i g hi => hz.2.1 g (List.mem_of_getElem? hi))
  obtain ⟨b3, _, l3⟩ := LOu.of_owns h.r3 (by omega) (fun i g hi => hz.2.2 g (List.mem_of_getElem? hi))
  exact ⟨l1.row, l2.row, l3.row⟩
theorem TQ.vals (h : TQ X N w1 W v1 v2 v3 L S M) : ∃ a1 c1 a2 c2 a3 c3, v1 = .slice a1 L.length c1 ∧ v2 = .slice a2 S.length c2 ∧ v3 = .slice a3 M.length c3 := by
  have f : ∀ {B e K n : Nat} {v : Value} {xs : List Value}, W.ownsRow B e K v n xs → ∃ a c, v = .slice a n c := fun h => by
    rcases h.2 with ⟨rfl, rfl⟩ | ⟨g, cap, cur, rfl, _⟩
    · exact ⟨_, _, rfl⟩
    · exact ⟨_, _, rfl⟩
  obtain ⟨a1, c1, e1⟩ := f h.r1
  obtain ⟨a2, c2, e2⟩ := f h.r2
  obtain ⟨a3, c3, e3⟩ := f h.r3
  exact ⟨a1, c1, a2, c2, a3, c3, e1, e2, e3⟩
theorem bx3 {W : World} {b t : Nat} {x0 x1 x2 : Value} (h : W.heap[b]? = some (.cells #[x0, x1, x2] t)) : W.cell? ⟨b, 0, none⟩ = some x0 ∧ W.cell? ⟨b, 1, none⟩ = some x1 ∧ W.cell? ⟨b, 2, none⟩ = some x2 := by
  refine ⟨?_, ?_, ?_⟩ <;> simp [World.cell?, h]
theorem at_newOu' (W : World) (c : OutR) : AtOu (W.alloc (.cells #[.string c.partner, .int .i64 c.number, .string c.text, .int .i64 c.tries, .int .i64 c.due] 25)) W.heap.size 0 c := by
  obtain ⟨a0, a1, a2, a3, a4⟩ := box5 (World.alloc_heap_new W (.cells #[.string c.partner, .int .i64 c.number, .string c.text, .int .i64 c.tries, .int .i64 c.due] 25))
  exact ⟨a0, a1, a2, a3, a4⟩
theorem at_newSe (W : World) (c : SenR) : AtSe (W.alloc (.cells #[.string c.partner, .int .i64 c.number, .string c.text] 66)) W.heap.size 0 c := by
  obtain ⟨a0, a1, a2⟩ := bx3 (World.alloc_heap_new W (.cells #[.string c.partner, .int .i64 c.number, .string c.text] 66))
  exact ⟨a0, a1, a2⟩
end
end Go.Proofs.Ytiakkpglnijapaa
