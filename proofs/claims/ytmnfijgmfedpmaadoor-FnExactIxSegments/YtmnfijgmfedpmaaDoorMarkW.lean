/- Marks written into any argument: only scalars of a zone of blocks are changed; and the measures, which tell how many marks there are. -/
import Derived.Test.YtmnfijgmfedpmaaDoorMarkT
import Derived.Test.YtmnfijgmfedpmaaDoorToIx
namespace Go.Proofs.YtmnfijgmfedpmaaDoor
open Go.ChangeShapes Go.WideShapes Go.ChangeAt Go.RowKit
/-- Scalars of the blocks from lo to hi may have changed, nothing else. -/
structure Tame (lo hi : Nat) (W W' : World) : Prop where
  os : W'.os = W.os
  tape : W'.tape = W.tape
  output : W'.output = W.output
  size : W.heap.size ≤ W'.heap.size
  block : ∀ k, k < W.heap.size → (k < lo ∨ hi ≤ k) → W'.heap[k]? = W.heap[k]?
  sl : ∀ b o a n c, W.cell? ⟨b, o, none⟩ = some (.slice a n c) → W'.cell? ⟨b, o, none⟩ = some (.slice a n c)
  st : ∀ b o t, W.cell? ⟨b, o, none⟩ = some (.string t) → ∃ t', W'.cell? ⟨b, o, none⟩ = some (.string t')
  nu : ∀ b o z, W.cell? ⟨b, o, none⟩ = some (.int .i64 z) → ∃ z', W'.cell? ⟨b, o, none⟩ = some (.int .i64 z')
  fz : ∀ b o, b < W.heap.size → W.frozen? ⟨b, o, none⟩ = false → W'.frozen? ⟨b, o, none⟩ = false
theorem Tame.refl (lo hi : Nat) (W : World) : Tame lo hi W W := ⟨rfl, rfl, rfl, Nat.le_refl _, fun _ _ _ => rfl, fun _ _ _ _ _ h => h, fun _ _ t h => ⟨t, h⟩, fun _ _ z h => ⟨z, h⟩, fun _ _ _ h => h⟩
theorem Tame.trans {lo hi : Nat} {a b c : World} (h : Tame lo hi a b) (k : Tame lo hi b c) : Tame lo hi a c :=
  ⟨k.os.trans h.os, k.tape.trans h.tape, k.output.trans h.output, Nat.le_trans h.size k.size, fun i hi' hz => (k.block i (Nat.lt_of_lt_of_le hi' h.size) hz).trans (h.block i hi' hz),
    fun b o a n c e => k.sl _ _ _ _ _ (h.sl b o a n c e), fun b o t e => by obtain ⟨t', e'⟩ := h.st b o t e; exact k.st _ _ _ e', fun b o z e => by obtain ⟨z', e'⟩ := h.nu b o z e; exact k.nu _ _ _ e',
    fun b o hb e => k.fz b o (Nat.lt_of_lt_of_le hb h.size) (h.fz b o hb e)⟩
theorem Tame.of_below {lo hi : Nat} {W W' : World} (h : Below W.heap.size W W') : Tame lo hi W W' :=
  ⟨h.os, h.tape, h.output, h.size, fun k hk _ => h.block k hk, fun b o _ _ _ e => (h.cell (p := ⟨b, o, none⟩) (cell_lt e)).trans e, fun b o t e => ⟨t, (h.cell (p := ⟨b, o, none⟩) (cell_lt e)).trans e⟩,
    fun b o z e => ⟨z, (h.cell (p := ⟨b, o, none⟩) (cell_lt e)).trans e⟩, fun b o hb e => (h.frozen (p := ⟨b, o, none⟩) hb).trans e⟩
theorem setAt_cases (W : World) (b o b' o' : Nat) (x u : Value) (hx : W.cell? ⟨b, o, none⟩ = some u) : (b' = b ∧ o' = o ∧ (W.setCell ⟨b, o, none⟩ x).cell? ⟨b', o', none⟩ = some x) ∨ ((W.setCell ⟨b, o, none⟩ x).cell? ⟨b', o', none⟩ = W.cell? ⟨b', o', none⟩ ∧ ¬ (b' = b ∧ o' = o)) := by
  by_cases e : b' = b ∧ o' = o
  · obtain ⟨rfl, rfl⟩ := e
    exact .inl ⟨rfl, rfl, World.cell?_setCell_same' _ _ _ (by rw [hx]; rfl)⟩
  · exact .inr ⟨World.cell?_setCell_other _ _ _ _ (by simp <;> omega), e⟩
theorem Tame.setS {lo hi b o : Nat} {W : World} {t : ByteArray} (h1 : lo ≤ b) (h2 : b < hi) (hc : W.cell? ⟨b, o, none⟩ = some (.string t)) (t' : ByteArray) : Tame lo hi W (W.setCell ⟨b, o, none⟩ (.string t')) := by
  refine ⟨rfl, rfl, rfl, by simp [World.setCell], fun k _ hk => Below.heap_setCell W ⟨b, o, none⟩ _ k (show k ≠ b by omega), fun b' o' a n c e => ?_, fun b' o' s e => ?_, fun b' o' z e => ?_, fun b' o' _ e => by rw [World.frozen?_setCell]; exact e⟩
  · rcases setAt_cases W b o b' o' (.string t') _ hc with ⟨rfl, rfl, _⟩ | ⟨q, _⟩
    · rw [hc] at e; cases e
    · rw [q]; exact e
  · rcases setAt_cases W b o b' o' (.string t') _ hc with ⟨_, _, q⟩ | ⟨q, _⟩
    · exact ⟨_, q⟩
    · exact ⟨s, q.trans e⟩
  · rcases setAt_cases W b o b' o' (.string t') _ hc with ⟨rfl, rfl, _⟩ | ⟨q, _⟩
    · rw [hc] at e; cases e
    · exact ⟨z, q.trans e⟩
theorem Tame.setI {lo hi b o : Nat} {W : World} {z : Int} (h1 : lo ≤ b) (h2 : b < hi) (hc : W.cell? ⟨b, o, none⟩ = some (.int .i64 z)) (z' : Int) : Tame lo hi W (W.setCell ⟨b, o, none⟩ (.int .i64 z')) := by
  refine ⟨rfl, rfl, rfl, by simp [World.setCell], fun k _ hk => Below.heap_setCell W ⟨b, o, none⟩ _ k (show k ≠ b by omega), fun b' o' a n c e => ?_, fun b' o' s e => ?_, fun b' o' y e => ?_, fun b' o' _ e => by rw [World.frozen?_setCell]; exact e⟩
  · rcases setAt_cases W b o b' o' (.int .i64 z') _ hc with ⟨rfl, rfl, _⟩ | ⟨q, _⟩
    · rw [hc] at e; cases e
    · rw [q]; exact e
  · rcases setAt_cases W b o b' o' (.int .i64 z') _ hc with ⟨rfl, rfl, _⟩ | ⟨q, _⟩
    · rw [hc] at e; cases e
    · exact ⟨s, q.trans e⟩
  · rcases setAt_cases W b o b' o' (.int .i64 z') _ hc with ⟨_, _, q⟩ | ⟨q, _⟩
    · exact ⟨_, q⟩
    · exact ⟨y, q.trans e⟩
/-- Rows whose scalars may be written, in blocks from lo to hi. -/
def ShS (lo hi : Nat) (W : World) (v : Value) (n : Nat) : Prop := ∃ A C, v = .slice A n C ∧ (0 < n → ∃ b, A = some ⟨b, 0, none⟩ ∧ lo ≤ b ∧ b < hi ∧ (∀ o, W.frozen? ⟨b, o, none⟩ = false) ∧ ∀ i, i < n → ∃ t, W.cell? ⟨b, i, none⟩ = some (.string t))
def ShE (lo hi : Nat) (W : World) (v : Value) (es : List (List ByteArray)) : Prop := ∃ A C, v = .slice A es.length C ∧ (0 < es.length → ∃ b, A = some ⟨b, 0, none⟩ ∧ ∀ (i : Nat) (e : List ByteArray), es[i]? = some e → ∃ A' C', W.cell? ⟨b, i, none⟩ = some (.slice A' e.length C') ∧ ShS lo hi W (.slice A' e.length C') e.length)
def ShG (lo hi : Nat) (W : World) (v : Value) (gs : List Seg) : Prop := ∃ A C, v = .slice A gs.length C ∧ (0 < gs.length → ∃ b, A = some ⟨b, 0, none⟩ ∧ lo ≤ b ∧ b < hi ∧ (∀ o, W.frozen? ⟨b, o, none⟩ = false) ∧ ∀ (i : Nat) (g : Seg), gs[i]? = some g → (∃ t, W.cell? ⟨b, i * 2, none⟩ = some (.string t)) ∧ ∃ A' C', W.cell? ⟨b, i * 2 + 1, none⟩ = some (.slice A' g.2.length C') ∧ ShE lo hi W (.slice A' g.2.length C') g.2)
def ShM (lo hi : Nat) (W : World) (v : Value) (rs : List Msg) : Prop := ∃ A C, v = .slice A rs.length C ∧ (0 < rs.length → ∃ b, A = some ⟨b, 0, none⟩ ∧ lo ≤ b ∧ b < hi ∧ (∀ o, W.frozen? ⟨b, o, none⟩ = false) ∧ ∀ (i : Nat) (g : Msg), rs[i]? = some g → (∃ z, W.cell? ⟨b, i * 2, none⟩ = some (.int .i64 z)) ∧ ∃ A' C', W.cell? ⟨b, i * 2 + 1, none⟩ = some (.slice A' g.body.length C') ∧ ShG lo hi W (.slice A' g.body.length C') g.body)
def ShB (lo hi : Nat) (W : World) (v : Value) (rs : List Bun) : Prop := ∃ A C, v = .slice A rs.length C ∧ (0 < rs.length → ∃ b, A = some ⟨b, 0, none⟩ ∧ lo ≤ b ∧ b < hi ∧ (∀ o, W.frozen? ⟨b, o, none⟩ = false) ∧ ∀ (i : Nat) (g : Bun), rs[i]? = some g → (∃ z, W.cell? ⟨b, i * 3, none⟩ = some (.int .i64 z)) ∧ (∃ z, W.cell? ⟨b, i * 3 + 1, none⟩ = some (.int .i64 z)) ∧ ∃ A' C', W.cell? ⟨b, i * 3 + 2, none⟩ = some (.slice A' g.msgs.length C') ∧ ShM lo hi W (.slice A' g.msgs.length C') g.msgs)
theorem ShS.tame {lo hi n : Nat} {W W' : World} {v : Value} (h : ShS lo hi W v n) (k : Tame lo hi W W') : ShS lo hi W' v n := by
  obtain ⟨A, C, e, h⟩ := h
  refine ⟨A, C, e, fun h0 => ?_⟩
  obtain ⟨b, e1, h1, h2, h3, h4⟩ := h h0
  obtain ⟨t, ht⟩ := h4 0 h0
  exact ⟨b, e1, h1, h2, fun o => k.fz b o (cell_lt ht) (h3 o), fun i hi' => by obtain ⟨t, ht⟩ := h4 i hi'; exact k.st _ _ _ ht⟩
theorem ShE.tame {lo hi : Nat} {W W' : World} {v : Value} {es : List (List ByteArray)} (h : ShE lo hi W v es) (k : Tame lo hi W W') : ShE lo hi W' v es := by
  obtain ⟨A, C, e, h⟩ := h
  refine ⟨A, C, e, fun h0 => ?_⟩
  obtain ⟨b, e1, h4⟩ := h h0
  refine ⟨b, e1, fun i x hx => ?_⟩
  obtain ⟨A', C', q1, q2⟩ := h4 i x hx
  exact ⟨A', C', k.sl _ _ _ _ _ q1, q2.tame k⟩
theorem ShG.tame {lo hi : Nat} {W W' : World} {v : Value} {gs : List Seg} (h : ShG lo hi W v gs) (k : Tame lo hi W W') : ShG lo hi W' v gs := by
  obtain ⟨A, C, e, h⟩ := h
  refine ⟨A, C, e, fun h0 => ?_⟩
  obtain ⟨b, e1, h1, h2, h3, h4⟩ := h h0
  obtain ⟨⟨t, ht⟩, _⟩ := h4 0 _ (List.getElem?_eq_getElem h0)
  refine ⟨b, e1, h1, h2, fun o => k.fz b o (cell_lt ht) (h3 o), fun i x hx => ?_⟩
  obtain ⟨⟨t, ht⟩, A', C', q1, q2⟩ := h4 i x hx
  exact ⟨k.st _ _ _ ht, A', C', k.sl _ _ _ _ _ q1, q2.tame k⟩
theorem ShM.tame {lo hi : Nat} {W W' : World} {v : Value} {rs : List Msg} (h : ShM lo hi W v rs) (k : Tame lo hi W W') : ShM lo hi W' v rs := by
  obtain ⟨A, C, e, h⟩ := h
  refine ⟨A, C, e, fun h0 => ?_⟩
  obtain ⟨b, e1, h1, h2, h3, h4⟩ := h h0
  obtain ⟨⟨t, ht⟩, _⟩ := h4 0 _ (List.getElem?_eq_getElem h0)
  refine ⟨b, e1, h1, h2, fun o => k.fz b o (cell_lt ht) (h3 o), fun i x hx => ?_⟩
  obtain ⟨⟨t, ht⟩, A', C', q1, q2⟩ := h4 i x hx
  exact ⟨k.nu _ _ _ ht, A', C', k.sl _ _ _ _ _ q1, q2.tame k⟩
theorem ShB.tame {lo hi : Nat} {W W' : World} {v : Value} {rs : List Bun} (h : ShB lo hi W v rs) (k : Tame lo hi W W') : ShB lo hi W' v rs := by
  obtain ⟨A, C, e, h⟩ := h
  refine ⟨A, C, e, fun h0 => ?_⟩
  obtain ⟨b, e1, h1, h2, h3, h4⟩ := h h0
  obtain ⟨⟨t, ht⟩, _⟩ := h4 0 _ (List.getElem?_eq_getElem h0)
  refine ⟨b, e1, h1, h2, fun o => k.fz b o (cell_lt ht) (h3 o), fun i x hx => ?_⟩
  obtain ⟨⟨t, ht⟩, ⟨y, hy⟩, A', C', q1, q2⟩ := h4 i x hx
  exact ⟨k.nu _ _ _ ht, k.nu _ _ _ hy, A', C', k.sl _ _ _ _ _ q1, q2.tame k⟩
theorem OwnS.sh {B : Nat} {W : World} {v : Value} {ss : List ByteArray} (h : OwnS B W v ss) {lo hi : Nat} (hlo : lo ≤ B) (hhi : W.heap.size ≤ hi) : ShS lo hi W v ss.length := by
  obtain ⟨b, h1, h2, h3⟩ := h
  have := h3.lt
  exact ⟨_, _, h2, fun _ => ⟨b, rfl, by omega, by omega, h3.frozen, fun i hi' => ⟨_, h3.cell hi'⟩⟩⟩
theorem OwnE.sh {B : Nat} {W : World} {v : Value} {es : List (List ByteArray)} (h : OwnE B W v es) {lo hi : Nat} (hlo : lo ≤ B) (hhi : W.heap.size ≤ hi) : ShE lo hi W v es := by
  obtain ⟨b, f, h1, h2, h3, h4⟩ := h
  refine ⟨_, _, h2, fun _ => ⟨b, rfl, fun i e he => ?_⟩⟩
  have hs := (h4 i e he).sh (lo := lo) (by omega) hhi
  obtain ⟨A', C', q1, q2⟩ := hs
  have hc := h3.cell (i := i) (List.getElem?_eq_some_iff.1 he).1
  rw [q1] at hc
  exact ⟨A', C', hc, A', C', rfl, q2⟩
theorem OwnG.sh {B : Nat} {W : World} {v : Value} {gs : List Seg} (h : OwnG B W v gs) {lo hi : Nat} (hlo : lo ≤ B) (hhi : W.heap.size ≤ hi) : ShG lo hi W v gs := by
  obtain ⟨b, f, h1, h2, h3, h4⟩ := h
  have := h3.lt
  refine ⟨_, _, h2, fun _ => ⟨b, rfl, by omega, by omega, h3.frozen, fun i g hg => ?_⟩⟩
  obtain ⟨e1, e2⟩ := h4 i g hg
  obtain ⟨A', C', q1, q2⟩ := e2.sh (lo := lo) (by omega) hhi
  have hlt := (List.getElem?_eq_some_iff.1 hg).1
  have c0 := h3.cell (i := i * 2) (by omega)
  have c1 := h3.cell (i := i * 2 + 1) (by omega)
  rw [e1] at c0
  rw [q1] at c1
  exact ⟨⟨_, c0⟩, A', C', c1, A', C', rfl, q2⟩
theorem OwnsM.sh {B : Nat} {W : World} {v : Value} {rs : List Msg} (h : OwnsM B W v rs) {lo hi : Nat} (hlo : lo ≤ B) (hhi : W.heap.size ≤ hi) : ShM lo hi W v rs := by
  obtain ⟨b, f, h1, h2, h3, h4⟩ := h
  have := h3.lt
  refine ⟨_, _, h2, fun _ => ⟨b, rfl, by omega, by omega, h3.frozen, fun i g hg => ?_⟩⟩
  obtain ⟨e1, e2⟩ := h4 i g hg
  obtain ⟨A', C', q1, q2⟩ := e2.sh (lo := lo) (by omega) hhi
  have hlt := (List.getElem?_eq_some_iff.1 hg).1
  have c0 := h3.cell (i := i * 2) (by omega)
  have c1 := h3.cell (i := i * 2 + 1) (by omega)
  rw [e1] at c0
  rw [q1] at c1
  exact ⟨⟨_, c0⟩, A', C', c1, A', C', rfl, q2⟩
theorem OwnsB.sh {B : Nat} {W : World} {v : Value} {rs : List Bun} (h : OwnsB B W v rs) {lo hi : Nat} (hlo : lo ≤ B) (hhi : W.heap.size ≤ hi) : ShB lo hi W v rs := by
  obtain ⟨b, f, h1, h2, h3, h4⟩ := h
  have := h3.lt
  refine ⟨_, _, h2, fun _ => ⟨b, rfl, by omega, by omega, h3.frozen, fun i g hg => ?_⟩⟩
  obtain ⟨e1, e1', e2⟩ := h4 i g hg
  obtain ⟨A', C', q1, q2⟩ := e2.sh (lo := lo) (by omega) hhi
  have hlt := (List.getElem?_eq_some_iff.1 hg).1
  have c0 := h3.cell (i := i * 3) (by omega)
  have c1 := h3.cell (i := i * 3 + 1) (by omega)
  have c2 := h3.cell (i := i * 3 + 2) (by omega)
  rw [e1] at c0
  rw [e1'] at c1
  rw [q1] at c2
  exact ⟨⟨_, c0⟩, ⟨_, c1⟩, A', C', c2, A', C', rfl, q2⟩
set_option maxHeartbeats 1000000 in
/-- markText at any number. -/
theorem markText_w (k0 : Nat) (w : World) (h0 : 0 < k0) (h1 : k0 < 1099511627776) :
    Calls Tryd.prog 38 #[.int .i64 k0] w fun e w' => ∃ t, e = .returned (.string t) ∧ Below w.heap.size w w' := by
  have h0' : (0 : Int) < (k0 : Int) := by omega
  have h1' : (k0 : Int) < 1099511627776 := by omega
  have hz0 : decide (k0 = 0) = false := by simp; omega
  go_enter Tryd.func38, Tryd.ntmps38
  go_wp2
  go_loopw [0, 3] (fun kv o wr => ∃ (f j : Nat) (acc : ByteArray), kv = .int .i64 j ∧ o = .string acc ∧ j < 2 ^ f ∧ j < 1099511627776 ∧ acc.size + f ≤ 40 ∧ Below w.heap.size w wr) (fun kv _ _ => (intOf kv).toNat)
  case atStart => exact ⟨40, k0, ⟨#[]⟩, rfl, rfl, h1, h1, by decide, Below.refl _ _⟩
  case round =>
    obtain ⟨f, j, acc, rfl, rfl, hj, hj2, hac, hb⟩ := hrel
    have H : Hid (j < 2 ^ f ∧ Below w.heap.size w wr) := ⟨hj, hb⟩
    have hwz := hb.size
    clear hj hb
    have hcv := conv1 wr
    by_cases hp : 0 < j
    · have hp' : (0 : Int) < (j : Int) := by omega
      have hsn : (strOfNums [48 + (j : Int) % 10]).size = 1 := by rw [strOfNums_size]; rfl
      go_wp2
      obtain ⟨f, rfl⟩ : ∃ f', f = f' + 1 := by
        cases f with
        | zero =>
          have := H.out.1
          simp at this
          omega
        | succ f => exact ⟨f, rfl⟩
      have hlt : j / 10 < 2 ^ f := by
        have := H.out.1
        rw [Nat.pow_succ] at this
        omega
      go_roundw
      case rel => exact ⟨f, j / 10, strOfNums [48 + ((j % 10 : Nat) : Int)] ++ acc, by simp, by simp, hlt, by omega, by rw [ByteArray.size_append, strOfNums_size]; simp; omega, H.out.2.alloc hwz _⟩
      case measure => simp [intOf]; omega
    · obtain rfl : j = 0 := by omega
      have hacc : acc.size ≤ 40 := by omega
      go_wp2
      go_ret
      exact ⟨_, rfl, H.out.2⟩
/-- What stands ahead of a place. -/
def ofs {α : Type} (f : α → Nat) (l : List α) (i : Nat) : Nat := ((l.take i).map f).sum
theorem ofs_zero {α : Type} (f : α → Nat) (l : List α) : ofs f l 0 = 0 := by simp [ofs]
theorem ofs_succ {α : Type} {f : α → Nat} {l : List α} {i : Nat} {x : α} (h : l[i]? = some x) : ofs f l (i + 1) = ofs f l i + f x := by
  unfold ofs
  rw [List.take_add_one, h]
  simp
theorem ofs_mono {α : Type} {f : α → Nat} {l : List α} : ∀ {i : Nat}, i ≤ l.length → ofs f l i ≤ ofs f l l.length := by
  intro i hi
  induction hd : l.length - i generalizing i with
  | zero => rw [show i = l.length by omega]; exact Nat.le_refl _
  | succ d ih =>
    have hlt : i < l.length := by omega
    have h1 := ofs_succ (f := f) (List.getElem?_eq_getElem hlt)
    have h2 := ih (i := i + 1) (by omega) (by omega)
    omega
def cE (es : List (List ByteArray)) : Nat := ofs List.length es es.length
def cG (gs : List Seg) : Nat := ofs (fun g => 1 + cE g.2) gs gs.length
def cM (rs : List Msg) : Nat := ofs (fun r => 1 + cG r.body) rs rs.length
def cB (rs : List Bun) : Nat := ofs (fun r => 2 + cM r.msgs) rs rs.length
set_option maxHeartbeats 1000000 in
theorem markS_w (v : Value) (n lo hi k0 : Nat) (w : World) (h : ShS lo hi w v n) (hk0 : 0 < k0) (hk1 : k0 + n < 1099511627776) :
    Calls Tryd.prog 66 #[v, .int .i64 k0] w fun e w' => e = .returned (.int .i64 ((k0 + n : Nat) : Int)) ∧ Tame lo hi w w' := by
  obtain ⟨A, C, rfl, h⟩ := h
  have HT : Hid (ShS lo hi w (.slice A n C) n) := ⟨A, C, rfl, h⟩
  clear h
  go_enter Tryd.func66, Tryd.ntmps66
  go_wp2
  go_loopw [1, 5] (fun kv i wr => ∃ k : Nat, k ≤ n ∧ i = .int .i64 k ∧ kv = .int .i64 ((k0 + k : Nat) : Int) ∧ Tame lo hi w wr) (fun _ i _ => n - (intOf i).toNat)
  case atStart => exact ⟨0, Nat.zero_le _, rfl, by simp, Tame.refl _ _ _⟩
  case round =>
    obtain ⟨k, hk, rfl, rfl, hT⟩ := hrel
    have HK : Hid (Tame lo hi w wr) := hT
    clear hT
    by_cases hlt : k < n
    · have hlt' : (k : Int) < (n : Int) := by omega
      obtain ⟨A', C', ee, hh⟩ := HT.out
      simp only [Value.slice.injEq, true_and] at ee
      obtain ⟨rfl, rfl⟩ := ee
      obtain ⟨b, rfl, hlo, hhi, _⟩ := hh (by omega)
      clear hh
      go_wp2_with fail
      refine (markText_w (k0 + k) _ (by omega) (by omega)).mono ?_
      rintro e w3 ⟨t3, rfl, hb3⟩
      have hT3 := HK.out.trans (Tame.of_below (lo := lo) (hi := hi) hb3)
      obtain ⟨A', C', ee, hh⟩ := HT.out.tame hT3
      simp only [Value.slice.injEq, true_and] at ee
      obtain ⟨rfl, rfl⟩ := ee
      obtain ⟨b', eb, _, _, zu, hc⟩ := hh (by omega)
      simp only [Option.some.injEq, Addr.mk.injEq, and_true] at eb
      subst eb
      obtain ⟨t, ku⟩ := hc k hlt
      have HM : Hid (Tame lo hi w (w3.setCell ⟨b, k, none⟩ (.string t3))) := hT3.trans (Tame.setS hlo hhi ku t3)
      clear hh hc hT3 hb3 HK
      go_wp2
      go_roundw
      case rel => exact ⟨k + 1, by omega, by go_num, by first | go_num | (congr 1; omega), HM.out⟩
      case measure => simp [intOf]; omega
    · have hge : (n : Int) ≤ (k : Int) := by omega
      obtain rfl : k = n := by omega
      go_wp2
      go_ret
      exact ⟨rfl, HK.out⟩
set_option maxHeartbeats 1000000 in
theorem markE_w (v : Value) (es : List (List ByteArray)) (lo hi k0 : Nat) (w : World) (h : ShE lo hi w v es) (hl : es.length ≤ 1048576) (hk0 : 0 < k0) (hk1 : k0 + cE es < 1099511627776) :
    Calls Tryd.prog 39 #[v, .int .i64 k0] w fun e w' => e = .returned (.int .i64 ((k0 + cE es : Nat) : Int)) ∧ Tame lo hi w w' := by
  obtain ⟨A, C, rfl, h⟩ := h
  have HT : Hid (ShE lo hi w (.slice A es.length C) es) := ⟨A, C, rfl, h⟩
  clear h
  unfold cE at hk1 ⊢
  go_enter Tryd.func39, Tryd.ntmps39
  go_wp2
  go_loopw [1, 5] (fun kv i wr => ∃ k : Nat, k ≤ es.length ∧ i = .int .i64 k ∧ kv = .int .i64 ((k0 + ofs List.length es k : Nat) : Int) ∧ Tame lo hi w wr) (fun _ i _ => es.length - (intOf i).toNat)
  case atStart => exact ⟨0, Nat.zero_le _, rfl, by simp [ofs_zero], Tame.refl _ _ _⟩
  case round =>
    obtain ⟨k, hk, rfl, rfl, hT⟩ := hrel
    have hof := ofs_mono (f := List.length) (l := es) hk
    by_cases hlt : k < es.length
    · have hlt' : (k : Int) < (es.length : Int) := by omega
      obtain ⟨e, he⟩ : ∃ e, es[k]? = some e := ⟨_, List.getElem?_eq_getElem hlt⟩
      have hof1 := ofs_mono (f := List.length) (l := es) (i := k + 1) hlt
      rw [ofs_succ he] at hof1
      obtain ⟨A', C', ee, hh⟩ := HT.out.tame hT
      simp only [Value.slice.injEq, true_and] at ee
      obtain ⟨rfl, rfl⟩ := ee
      obtain ⟨b, rfl, hc⟩ := hh (by omega)
      obtain ⟨A1, C1, q1, q2⟩ := hc k e he
      have HK : Hid (Tame lo hi w wr ∧ ShS lo hi wr (.slice A1 e.length C1) e.length ∧ es[k]? = some e) := ⟨hT, q2, he⟩
      clear hT hh hc q2 he
      go_wp2_with fail
      refine (markS_w _ e.length lo hi (k0 + ofs List.length es k) _ HK.out.2.1 (by omega) (by omega)).mono ?_
      rintro e1 w2 ⟨rfl, hT2⟩
      have HM : Hid (Tame lo hi w w2 ∧ ofs List.length es (k + 1) = ofs List.length es k + e.length) := ⟨HK.out.1.trans hT2, ofs_succ HK.out.2.2⟩
      clear hT2 HK
      go_wp2
      go_roundw
      case rel => exact ⟨k + 1, by omega, by go_num, by rw [HM.out.2]; congr 1; omega, HM.out.1⟩
      case measure => simp [intOf]; omega
    · have hge : (es.length : Int) ≤ (k : Int) := by omega
      obtain rfl : k = es.length := by omega
      have HK : Hid (Tame lo hi w wr) := hT
      clear hT
      go_wp2
      go_ret
      exact ⟨rfl, HK.out⟩
set_option maxHeartbeats 1000000 in
theorem markG_w (v : Value) (gs : List Seg) (lo hi k0 : Nat) (w : World) (h : ShG lo hi w v gs) (hB : BdG 1048576 gs) (hk0 : 0 < k0) (hk1 : k0 + cG gs < 1099511627776) :
    Calls Tryd.prog 13 #[v, .int .i64 k0] w fun e w' => e = .returned (.int .i64 ((k0 + cG gs : Nat) : Int)) ∧ Tame lo hi w w' := by
  obtain ⟨A, C, rfl, h⟩ := h
  have hl := hB.1
  have HT : Hid (ShG lo hi w (.slice A gs.length C) gs ∧ BdG 1048576 gs) := ⟨⟨A, C, rfl, h⟩, hB⟩
  clear h hB
  unfold cG at hk1 ⊢
  obtain ⟨F, hF⟩ : ∃ F : Seg → Nat, (fun g : Seg => 1 + cE g.2) = F := ⟨_, rfl⟩
  have hFx : ∀ g, F g = 1 + cE g.2 := fun g => by rw [← hF]
  rw [hF] at hk1 ⊢
  clear hF
  go_enter Tryd.func13, Tryd.ntmps13
  go_wp2
  go_loopw [1, 5] (fun kv i wr => ∃ k : Nat, k ≤ gs.length ∧ i = .int .i64 k ∧ kv = .int .i64 ((k0 + ofs F gs k : Nat) : Int) ∧ Tame lo hi w wr) (fun _ i _ => gs.length - (intOf i).toNat)
  case atStart => exact ⟨0, Nat.zero_le _, rfl, by simp [ofs_zero], Tame.refl _ _ _⟩
  case round =>
    obtain ⟨k, hk, rfl, rfl, hT⟩ := hrel
    have hof := ofs_mono (f := F) (l := gs) hk
    by_cases hlt : k < gs.length
    · have hlt' : (k : Int) < (gs.length : Int) := by omega
      obtain ⟨g, he⟩ : ∃ e, gs[k]? = some e := ⟨_, List.getElem?_eq_getElem hlt⟩
      have hof1 := ofs_mono (f := F) (l := gs) (i := k + 1) hlt
      rw [ofs_succ he, hFx] at hof1
      obtain ⟨A', C', ee, hh⟩ := HT.out.1.tame hT
      simp only [Value.slice.injEq, true_and] at ee
      obtain ⟨rfl, rfl⟩ := ee
      obtain ⟨b, rfl, hlo, hhi, _⟩ := hh (by omega)
      have HK : Hid (Tame lo hi w wr ∧ gs[k]? = some g) := ⟨hT, he⟩
      clear hT hh he
      go_wp2_with fail
      refine (markText_w (k0 + ofs F gs k) _ (by omega) (by omega)).mono ?_
      rintro e w3 ⟨t3, rfl, hb3⟩
      have hT3 := HK.out.1.trans (Tame.of_below (lo := lo) (hi := hi) hb3)
      obtain ⟨A', C', ee, hh⟩ := HT.out.1.tame hT3
      simp only [Value.slice.injEq, true_and] at ee
      obtain ⟨rfl, rfl⟩ := ee
      obtain ⟨b', eb, _, _, zu, hc⟩ := hh (by omega)
      simp only [Option.some.injEq, Addr.mk.injEq, and_true] at eb
      subst eb
      obtain ⟨⟨t, ku⟩, A1, C1, q1, q2⟩ := hc k g HK.out.2
      have hTs : Tame lo hi w3 (w3.setCell ⟨b, k * 2, none⟩ (.string t3)) := Tame.setS hlo hhi ku t3
      have q3 := hTs.sl _ _ _ _ _ q1
      have HM : Hid (Tame lo hi w (w3.setCell ⟨b, k * 2, none⟩ (.string t3)) ∧ ShE lo hi (w3.setCell ⟨b, k * 2, none⟩ (.string t3)) (.slice A1 g.2.length C1) g.2) := ⟨hT3.trans hTs, q2.tame hTs⟩
      clear hh hc hT3 hb3 q2 hTs
      go_wp2_with fail
      refine (markE_w _ g.2 lo hi (k0 + ofs F gs k + 1) _ HM.out.2 (HT.out.2.2 k g HK.out.2).2.1 (by omega) (by omega)).mono ?_
      rintro e w4 ⟨rfl, hT4⟩
      have HN : Hid (Tame lo hi w w4 ∧ ofs F gs (k + 1) = ofs F gs k + (1 + cE g.2)) := ⟨HM.out.1.trans hT4, by rw [ofs_succ HK.out.2, hFx]⟩
      clear hT4 HM HK
      go_wp2
      go_roundw
      case rel => exact ⟨k + 1, by omega, by go_num, by rw [HN.out.2]; congr 1; omega, HN.out.1⟩
      case measure => simp [intOf]; omega
    · have hge : (gs.length : Int) ≤ (k : Int) := by omega
      obtain rfl : k = gs.length := by omega
      have HK : Hid (Tame lo hi w wr) := hT
      clear hT
      go_wp2
      go_ret
      exact ⟨rfl, HK.out⟩
set_option maxHeartbeats 1000000 in
theorem markM_w (v : Value) (rs : List Msg) (lo hi k0 : Nat) (w : World) (h : ShM lo hi w v rs) (hB : BdsM 1048576 rs) (hk0 : 0 < k0) (hk1 : k0 + cM rs < 1099511627776) :
    Calls Tryd.prog 65 #[v, .int .i64 k0] w fun e w' => e = .returned (.int .i64 ((k0 + cM rs : Nat) : Int)) ∧ Tame lo hi w w' := by
  obtain ⟨A, C, rfl, h⟩ := h
  have hl := hB.1
  have HT : Hid (ShM lo hi w (.slice A rs.length C) rs ∧ BdsM 1048576 rs) := ⟨⟨A, C, rfl, h⟩, hB⟩
  clear h hB
  unfold cM at hk1 ⊢
  obtain ⟨F, hF⟩ : ∃ F : Msg → Nat, (fun g : Msg => 1 + cG g.body) = F := ⟨_, rfl⟩
  have hFx : ∀ g, F g = 1 + cG g.body := fun g => by rw [← hF]
  rw [hF] at hk1 ⊢
  clear hF
  go_enter Tryd.func65, Tryd.ntmps65
  go_wp2
  go_loopw [1, 5] (fun kv i wr => ∃ k : Nat, k ≤ rs.length ∧ i = .int .i64 k ∧ kv = .int .i64 ((k0 + ofs F rs k : Nat) : Int) ∧ Tame lo hi w wr) (fun _ i _ => rs.length - (intOf i).toNat)
  case atStart => exact ⟨0, Nat.zero_le _, rfl, by simp [ofs_zero], Tame.refl _ _ _⟩
  case round =>
    obtain ⟨k, hk, rfl, rfl, hT⟩ := hrel
    have hof := ofs_mono (f := F) (l := rs) hk
    by_cases hlt : k < rs.length
    · have hlt' : (k : Int) < (rs.length : Int) := by omega
      obtain ⟨g, he⟩ : ∃ e, rs[k]? = some e := ⟨_, List.getElem?_eq_getElem hlt⟩
      have hof1 := ofs_mono (f := F) (l := rs) (i := k + 1) hlt
      rw [ofs_succ he, hFx] at hof1
      obtain ⟨A', C', ee, hh⟩ := HT.out.1.tame hT
      simp only [Value.slice.injEq, true_and] at ee
      obtain ⟨rfl, rfl⟩ := ee
      obtain ⟨b, rfl, hlo, hhi, zu, hc⟩ := hh (by omega)
      obtain ⟨⟨z, ku⟩, A1, C1, q1, q2⟩ := hc k g he
      have hTs : Tame lo hi wr (wr.setCell ⟨b, k * 2, none⟩ (.int .i64 ((k0 + ofs F rs k : Nat) : Int))) := Tame.setI hlo hhi ku _
      have q3 := hTs.sl _ _ _ _ _ q1
      have HM : Hid (Tame lo hi w (wr.setCell ⟨b, k * 2, none⟩ (.int .i64 ((k0 + ofs F rs k : Nat) : Int))) ∧ ShG lo hi (wr.setCell ⟨b, k * 2, none⟩ (.int .i64 ((k0 + ofs F rs k : Nat) : Int))) (.slice A1 g.body.length C1) g.body ∧ rs[k]? = some g) := ⟨hT.trans hTs, q2.tame hTs, he⟩
      clear hh hc hT q2 hTs he
      go_wp2_with fail
      refine (markG_w _ g.body lo hi (k0 + ofs F rs k + 1) _ HM.out.2.1 (HT.out.2.2 k g HM.out.2.2) (by omega) (by omega)).mono ?_
      rintro e w4 ⟨rfl, hT4⟩
      have HN : Hid (Tame lo hi w w4 ∧ ofs F rs (k + 1) = ofs F rs k + (1 + cG g.body)) := ⟨HM.out.1.trans hT4, by rw [ofs_succ HM.out.2.2, hFx]⟩
      clear hT4 HM
      go_wp2
      go_roundw
      case rel => exact ⟨k + 1, by omega, by go_num, by rw [HN.out.2]; congr 1; omega, HN.out.1⟩
      case measure => simp [intOf]; omega
    · have hge : (rs.length : Int) ≤ (k : Int) := by omega
      obtain rfl : k = rs.length := by omega
      have HK : Hid (Tame lo hi w wr) := hT
      clear hT
      go_wp2
      go_ret
      exact ⟨rfl, HK.out⟩
set_option maxHeartbeats 1000000 in
theorem markB_w (v : Value) (rs : List Bun) (lo hi k0 : Nat) (w : World) (h : ShB lo hi w v rs) (hB : BdsB 1048576 rs) (hk0 : 0 < k0) (hk1 : k0 + cB rs < 1099511627776) :
    Calls Tryd.prog 37 #[v, .int .i64 k0] w fun e w' => e = .returned (.int .i64 ((k0 + cB rs : Nat) : Int)) ∧ Tame lo hi w w' := by
  obtain ⟨A, C, rfl, h⟩ := h
  have hl := hB.1
  have HT : Hid (ShB lo hi w (.slice A rs.length C) rs ∧ BdsB 1048576 rs) := ⟨⟨A, C, rfl, h⟩, hB⟩
  clear h hB
  unfold cB at hk1 ⊢
  obtain ⟨F, hF⟩ : ∃ F : Bun → Nat, (fun g : Bun => 2 + cM g.msgs) = F := ⟨_, rfl⟩
  have hFx : ∀ g, F g = 2 + cM g.msgs := fun g => by rw [← hF]
  rw [hF] at hk1 ⊢
  clear hF
  go_enter Tryd.func37, Tryd.ntmps37
  go_wp2
  go_loopw [1, 5] (fun kv i wr => ∃ k : Nat, k ≤ rs.length ∧ i = .int .i64 k ∧ kv = .int .i64 ((k0 + ofs F rs k : Nat) : Int) ∧ Tame lo hi w wr) (fun _ i _ => rs.length - (intOf i).toNat)
  case atStart => exact ⟨0, Nat.zero_le _, rfl, by simp [ofs_zero], Tame.refl _ _ _⟩
  case round =>
    obtain ⟨k, hk, rfl, rfl, hT⟩ := hrel
    have hof := ofs_mono (f := F) (l := rs) hk
    by_cases hlt : k < rs.length
    · have hlt' : (k : Int) < (rs.length : Int) := by omega
      obtain ⟨g, he⟩ : ∃ e, rs[k]? = some e := ⟨_, List.getElem?_eq_getElem hlt⟩
      have hof1 := ofs_mono (f := F) (l := rs) (i := k + 1) hlt
      rw [ofs_succ he, hFx] at hof1
      obtain ⟨A', C', ee, hh⟩ := HT.out.1.tame hT
      simp only [Value.slice.injEq, true_and] at ee
      obtain ⟨rfl, rfl⟩ := ee
      obtain ⟨b, rfl, hlo, hhi, zu, hc⟩ := hh (by omega)
      obtain ⟨⟨z, ku⟩, ⟨y, ku1⟩, A1, C1, q1, q2⟩ := hc k g he
      have e1 : ((k0 + ofs F rs k : Nat) : Int) + 1 = ((k0 + ofs F rs k + 1 : Nat) : Int) := by omega
      have hTs : Tame lo hi wr (wr.setCell ⟨b, k * 3, none⟩ (.int .i64 ((k0 + ofs F rs k : Nat) : Int))) := Tame.setI hlo hhi ku _
      obtain ⟨y', ku2⟩ := hTs.nu _ _ _ ku1
      have hTt : Tame lo hi (wr.setCell ⟨b, k * 3, none⟩ (.int .i64 ((k0 + ofs F rs k : Nat) : Int))) ((wr.setCell ⟨b, k * 3, none⟩ (.int .i64 ((k0 + ofs F rs k : Nat) : Int))).setCell ⟨b, k * 3 + 1, none⟩ (.int .i64 (((k0 + ofs F rs k : Nat) : Int) + 1))) := Tame.setI hlo hhi ku2 _
      have q3 := (hTs.trans hTt).sl _ _ _ _ _ q1
      have HM : Hid (Tame lo hi w ((wr.setCell ⟨b, k * 3, none⟩ (.int .i64 ((k0 + ofs F rs k : Nat) : Int))).setCell ⟨b, k * 3 + 1, none⟩ (.int .i64 (((k0 + ofs F rs k : Nat) : Int) + 1))) ∧ ShM lo hi ((wr.setCell ⟨b, k * 3, none⟩ (.int .i64 ((k0 + ofs F rs k : Nat) : Int))).setCell ⟨b, k * 3 + 1, none⟩ (.int .i64 (((k0 + ofs F rs k : Nat) : Int) + 1))) (.slice A1 g.msgs.length C1) g.msgs ∧ rs[k]? = some g) := ⟨hT.trans (hTs.trans hTt), q2.tame (hTs.trans hTt), he⟩
      clear hh hc hT q2 hTs hTt he
      go_wp2_with fail
      refine (markM_w _ g.msgs lo hi (k0 + ofs F rs k + 1 + 1) _ HM.out.2.1 (HT.out.2.2 k g HM.out.2.2) (by omega) (by omega)).mono ?_
      rintro e w4 ⟨rfl, hT4⟩
      have HN : Hid (Tame lo hi w w4 ∧ ofs F rs (k + 1) = ofs F rs k + (2 + cM g.msgs)) := ⟨HM.out.1.trans hT4, by rw [ofs_succ HM.out.2.2, hFx]⟩
      clear hT4 HM
      go_wp2
      go_roundw
      case rel => exact ⟨k + 1, by omega, by go_num, by rw [HN.out.2]; congr 1; omega, HN.out.1⟩
      case measure => simp [intOf]; omega
    · have hge : (rs.length : Int) ≤ (k : Int) := by omega
      obtain rfl : k = rs.length := by omega
      have HK : Hid (Tame lo hi w wr) := hT
      clear hT
      go_wp2
      go_ret
      exact ⟨rfl, HK.out⟩
set_option maxHeartbeats 1000000 in
theorem markI_w (frm tt : ByteArray) (num : Int) (v : Value) (rs : List Bun) (lo hi k0 : Nat) (w : World) (h : ShB lo hi w v rs) (hB : BdsB 1048576 rs) (hk0 : 0 < k0) (hk1 : k0 + cB rs < 1099511627776) :
    Calls Tryd.prog 12 #[.agg #[.string frm, .string tt, .int .i64 num, v], .int .i64 k0] w fun e w' => e = .returned (.int .i64 ((k0 + cB rs : Nat) : Int)) ∧ Tame lo hi w w' := by
  obtain ⟨A, C, rfl, h⟩ := h
  have HT : Hid (ShB lo hi w (.slice A rs.length C) rs ∧ BdsB 1048576 rs) := ⟨⟨A, C, rfl, h⟩, hB⟩
  clear h hB
  go_enter Tryd.func12, Tryd.ntmps12
  go_wp2_with fail
  have b0 : Below w.heap.size w (w.alloc (.cells #[.string frm, .string tt, .int .i64 num, .slice A rs.length C] 30)) := (Below.refl _ _).alloc (Nat.le_refl _) _
  refine (markB_w _ rs lo hi k0 _ (HT.out.1.tame (Tame.of_below b0)) HT.out.2 hk0 hk1).mono ?_
  rintro e w4 ⟨rfl, hT4⟩
  have HN : Hid (Tame lo hi w w4) := (Tame.of_below b0).trans hT4
  clear hT4 b0
  go_wp2
  go_ret
  exact ⟨rfl, HN.out⟩
set_option maxHeartbeats 1000000 in
theorem szS_c (v : Value) (ss : List ByteArray) (left : Int) (w : World) (h : RowS w v ss) (hl : 0 ≤ left ∧ left ≤ 1048576) :
    Calls Tryd.prog 105 #[v, .int .i64 left] w fun e w' => ∃ r : Int, e = .returned (.int .i64 r) ∧ (r = -1 ∨ (0 ≤ r ∧ r + (ss.length : Int) ≤ left ∧ BdS left.toNat ss)) ∧ Below w.heap.size w w' := by
  have hlen := h.len
  obtain ⟨a, cap, rfl⟩ := h.val
  have H : Hid (RowS w (.slice a ss.length cap) ss) := h
  clear h
  by_cases hn : left < (ss.length : Int)
  · have hn' : left - (ss.length : Int) < 0 := by omega
    go_enter Tryd.func105, Tryd.ntmps105
    go_wp2
    go_ret
    exact ⟨_, rfl, .inl rfl, Below.refl _ _⟩
  · have hn' : ¬ left - (ss.length : Int) < 0 := by omega
    go_enter Tryd.func105, Tryd.ntmps105
    go_wp2
    go_loopw [1, 5] (fun l i wr => ∃ (k : Nat) (r : Int), l = .int .i64 r ∧ i = .int .i64 (k : Int) ∧ k ≤ ss.length ∧ 0 ≤ r ∧ r + (ss.length : Int) ≤ left ∧ (∀ (j : Nat) (s : ByteArray), j < k → ss[j]? = some s → s.size ≤ left.toNat) ∧ wr = w) (fun _ i _ => ss.length - (intOf i).toNat)
    case atStart => exact ⟨0, _, rfl, rfl, by omega, by omega, by omega, fun j s h => by omega, rfl⟩
    case round =>
      obtain ⟨k, r, rfl, rfl, hk, hr0, hr1, hA, rfl⟩ := hrel
      have HA : Hid (∀ (j : Nat) (s : ByteArray), j < k → ss[j]? = some s → s.size ≤ left.toNat) := hA
      clear hA
      by_cases hlt : k < ss.length
      · have hlt' : (k : Int) < (ss.length : Int) := by omega
        obtain ⟨b, o, cap', s, e, hs, hc, hsz⟩ := H.out.at hlt
        simp only [Value.slice.injEq, true_and] at e
        obtain ⟨rfl, rfl⟩ := e
        have HS : Hid (ss[k]? = some s) := hs
        clear hs
        by_cases hneg : r - (s.size : Int) < 0
        · go_wp2
          go_ret
          exact ⟨_, rfl, .inl rfl, Below.refl _ _⟩
        · go_wp2
          go_roundw
          case rel =>
            refine ⟨k + 1, _, rfl, by go_num, by omega, by omega, by omega, fun j t hj ht => ?_, trivial⟩
            rcases Nat.lt_or_ge j k with g | g
            · exact HA.out j t g ht
            · obtain rfl : j = k := by omega
              rw [HS.out] at ht
              cases ht
              omega
          case measure => simp [intOf]; omega
      · obtain rfl : k = ss.length := by omega
        go_wp2
        go_ret
        refine ⟨r, rfl, .inr ⟨hr0, hr1, by omega, fun j s hj => HA.out j s ?_ hj⟩, Below.refl _ _⟩
        exact (List.getElem?_eq_some_iff.1 hj).1
set_option maxHeartbeats 400000 in
theorem szEl_c (v : Value) (ss : List ByteArray) (left : Int) (w : World) (h : RowS w v ss) (hl : 0 ≤ left ∧ left ≤ 1048576) :
    Calls Tryd.prog 89 #[.agg #[v], .int .i64 left] w fun e w' => ∃ r : Int, e = .returned (.int .i64 r) ∧ (r = -1 ∨ (0 ≤ r ∧ r + (ss.length : Int) ≤ left ∧ BdS left.toNat ss)) ∧ Below w.heap.size w w' := by
  obtain ⟨a, cap, rfl⟩ := h.val
  have H : Hid (RowS w (.slice a ss.length cap) ss) := h
  clear h
  go_enter Tryd.func89, Tryd.ntmps89
  go_wp2_with fail
  refine (szS_c _ ss left _ (H.out.below ((Below.refl _ _).alloc (Nat.le_refl _) _)) hl).mono ?_
  rintro e w1 ⟨r, rfl, hr, hb⟩
  have HB : Hid (Below w.heap.size w w1) := ((Below.refl _ _).alloc (Nat.le_refl _) _).trans (hb.mono (by simp))
  clear hb
  rcases hr with rfl | ⟨h0, h1, h2⟩
  · go_wp2
    go_ret
    exact ⟨_, rfl, .inl rfl, HB.out⟩
  · have h0' : ¬ r < 0 := by omega
    have H2 : Hid (BdS left.toNat ss) := h2
    clear h2
    go_wp2
    go_ret
    exact ⟨_, rfl, .inr ⟨h0, h1, H2.out⟩, HB.out⟩
set_option maxHeartbeats 1000000 in
theorem szE_c (v : Value) (es : List (List ByteArray)) (left : Int) (w : World) (h : RowE w v es) (hl : 0 ≤ left ∧ left ≤ 1048576) :
    Calls Tryd.prog 68 #[v, .int .i64 left] w fun e w' => ∃ r : Int, e = .returned (.int .i64 r) ∧ (r = -1 ∨ (0 ≤ r ∧ r + (cE es : Int) ≤ left ∧ BdE left.toNat es)) ∧ Below w.heap.size w w' := by
  obtain ⟨F, hF⟩ : ∃ F : List ByteArray → Nat, (List.length) = F := ⟨_, rfl⟩
  have HFx : Hid (∀ g, F g = (List.length) g) := fun g => by rw [← hF]
  have HF : Hid (cE es = ofs F es es.length) := by show ofs _ _ _ = _; rw [← hF]
  clear hF
  have hlen := h.len
  obtain ⟨a, cap, rfl⟩ := h.val
  have H : Hid (RowE w (.slice a es.length cap) es) := h
  clear h
  by_cases hn : left < (es.length : Int)
  · have hn' : left - (es.length : Int) < 0 := by omega
    go_enter Tryd.func68, Tryd.ntmps68
    go_wp2
    go_ret
    exact ⟨_, rfl, .inl rfl, Below.refl _ _⟩
  · have hn' : ¬ left - (es.length : Int) < 0 := by omega
    go_enter Tryd.func68, Tryd.ntmps68
    go_wp2
    go_loopw [1, 5] (fun l i wr => ∃ (k : Nat) (r : Int), l = .int .i64 r ∧ i = .int .i64 (k : Int) ∧ k ≤ es.length ∧ 0 ≤ r ∧ r ≤ left ∧ r + (ofs F es k : Int) + (es.length : Int) ≤ left + 0 * (k : Int) ∧ (∀ (j : Nat) (e : List ByteArray), j < k → es[j]? = some e → BdS left.toNat e) ∧ Below w.heap.size w wr) (fun _ i _ => es.length - (intOf i).toNat)
    case atStart => exact ⟨0, _, rfl, rfl, by omega, by omega, by omega, by rw [ofs_zero]; omega, fun j s h => by omega, Below.refl _ _⟩
    case round =>
      obtain ⟨k, r, rfl, rfl, hk, hr0, hr1, hr3, hA, hb⟩ := hrel
      have HA : Hid ((∀ (j : Nat) (e : List ByteArray), j < k → es[j]? = some e → BdS left.toNat e) ∧ Below w.heap.size w wr) := ⟨hA, hb⟩
      clear hA hb
      by_cases hlt : k < es.length
      · have hlt' : (k : Int) < (es.length : Int) := by omega
        obtain ⟨b, o, cap', s, u, e, hs, hc, hS⟩ := (H.out.below HA.out.2).at hlt
        simp only [Value.slice.injEq, true_and] at e
        obtain ⟨rfl, rfl⟩ := e
        have HS : Hid (es[k]? = some s ∧ RowS wr u s) := ⟨hs, hS⟩
        clear hs hS
        go_wp2_with fail
        refine (szEl_c u s r _ HS.out.2 ⟨hr0, by omega⟩).mono ?_
        rintro e w2 ⟨r2, rfl, hr2, hb2⟩
        have HB : Hid (Below w.heap.size w w2) := HA.out.2.trans (hb2.mono HA.out.2.size)
        clear hb2
        rcases hr2 with rfl | ⟨g0, g1, g2⟩
        · go_wp2
          go_ret
          exact ⟨_, rfl, .inl rfl, HB.out⟩
        · have H2 : Hid (BdS r.toNat s) := g2
          have g0' : ¬ r2 < 0 := by omega
          clear g2
          go_wp2
          go_roundw
          case rel =>
            refine ⟨k + 1, _, rfl, by go_num, by omega, by omega, by omega, by rw [ofs_succ HS.out.1, HFx.out]; omega, fun j t hj ht => ?_, HB.out⟩
            rcases Nat.lt_or_ge j k with g | g
            · exact HA.out.1 j t g ht
            · obtain rfl : j = k := by omega
              rw [HS.out.1] at ht
              cases ht
              exact H2.out.mono (by omega)
          case measure => simp [intOf]; omega
      · obtain rfl : k = es.length := by omega
        go_wp2
        go_ret
        refine ⟨r, rfl, .inr ⟨hr0, by rw [HF.out]; omega, by omega, fun j s hj => HA.out.1 j s ?_ hj⟩, HA.out.2⟩
        exact (List.getElem?_eq_some_iff.1 hj).1
set_option maxHeartbeats 1000000 in
theorem szG_c (tag : ByteArray) (v : Value) (es : List (List ByteArray)) (left : Int) (w : World) (ht : tag.size ≤ 9223372036854775807) (h : RowE w v es) (hl : 0 ≤ left ∧ left ≤ 1048576) :
    Calls Tryd.prog 41 #[.agg #[.string tag, v], .int .i64 left] w fun e w' => ∃ r : Int, e = .returned (.int .i64 r) ∧ (r = -1 ∨ (0 ≤ r ∧ r + (cE es : Int) ≤ left ∧ tag.size ≤ left.toNat ∧ BdE left.toNat es)) ∧ Below w.heap.size w w' := by
  obtain ⟨a, cap, rfl⟩ := h.val
  have H : Hid (RowE w (.slice a es.length cap) es) := h
  clear h
  by_cases hn : left - (tag.size : Int) < 0
  · go_enter Tryd.func41, Tryd.ntmps41
    go_wp2
    go_ret
    exact ⟨_, rfl, .inl rfl, (Below.refl _ _).alloc (Nat.le_refl _) _⟩
  · go_enter Tryd.func41, Tryd.ntmps41
    go_wp2_with fail
    refine (szE_c _ es (left - (tag.size : Int)) _ (H.out.below ((Below.refl _ _).alloc (Nat.le_refl _) _)) ⟨by omega, by omega⟩).mono ?_
    rintro e w1 ⟨r, rfl, hr, hb⟩
    have HB : Hid (Below w.heap.size w w1) := ((Below.refl _ _).alloc (Nat.le_refl _) _).trans (hb.mono (by simp))
    clear hb
    rcases hr with rfl | ⟨h0, h1, h2⟩
    · go_wp2
      go_ret
      exact ⟨_, rfl, .inl rfl, HB.out⟩
    · have h0' : ¬ r < 0 := by omega
      have H2 : Hid (BdE (left - (tag.size : Int)).toNat es) := h2
      clear h2
      go_wp2
      go_ret
      exact ⟨_, rfl, .inr ⟨h0, by omega, by omega, Nat.le_trans H2.out.1 (by omega), fun i e hi => (H2.out.2 i e hi).mono (by omega)⟩, HB.out⟩
set_option maxHeartbeats 1000000 in
theorem szGs_c (v : Value) (gs : List Seg) (left : Int) (w : World) (h : RowG w v gs) (hl : 0 ≤ left ∧ left ≤ 1048576) :
    Calls Tryd.prog 17 #[v, .int .i64 left] w fun e w' => ∃ r : Int, e = .returned (.int .i64 r) ∧ (r = -1 ∨ (0 ≤ r ∧ r + (cG gs : Int) ≤ left ∧ BdG left.toNat gs)) ∧ Below w.heap.size w w' := by
  obtain ⟨F, hF⟩ : ∃ F : Seg → Nat, (fun g => 1 + cE g.2) = F := ⟨_, rfl⟩
  have HFx : Hid (∀ g, F g = (fun g => 1 + cE g.2) g) := fun g => by rw [← hF]
  have HF : Hid (cG gs = ofs F gs gs.length) := by show ofs _ _ _ = _; rw [← hF]
  clear hF
  have hlen := h.len
  obtain ⟨a, cap, rfl⟩ := h.val
  have H : Hid (RowG w (.slice a gs.length cap) gs) := h
  clear h
  by_cases hn : left < (gs.length : Int)
  · have hn' : left - (gs.length : Int) < 0 := by omega
    go_enter Tryd.func17, Tryd.ntmps17
    go_wp2
    go_ret
    exact ⟨_, rfl, .inl rfl, Below.refl _ _⟩
  · have hn' : ¬ left - (gs.length : Int) < 0 := by omega
    go_enter Tryd.func17, Tryd.ntmps17
    go_wp2
    go_loopw [1, 5] (fun l i wr => ∃ (k : Nat) (r : Int), l = .int .i64 r ∧ i = .int .i64 (k : Int) ∧ k ≤ gs.length ∧ 0 ≤ r ∧ r ≤ left ∧ r + (ofs F gs k : Int) + (gs.length : Int) ≤ left + 1 * (k : Int) ∧ (∀ (j : Nat) (g : Seg), j < k → gs[j]? = some g → g.1.size ≤ left.toNat ∧ BdE left.toNat g.2) ∧ Below w.heap.size w wr) (fun _ i _ => gs.length - (intOf i).toNat)
    case atStart => exact ⟨0, _, rfl, rfl, by omega, by omega, by omega, by rw [ofs_zero]; omega, fun j s h => by omega, Below.refl _ _⟩
    case round =>
      obtain ⟨k, r, rfl, rfl, hk, hr0, hr1, hr3, hA, hb⟩ := hrel
      have HA : Hid ((∀ (j : Nat) (g : Seg), j < k → gs[j]? = some g → g.1.size ≤ left.toNat ∧ BdE left.toNat g.2) ∧ Below w.heap.size w wr) := ⟨hA, hb⟩
      clear hA hb
      by_cases hlt : k < gs.length
      · have hlt' : (k : Int) < (gs.length : Int) := by omega
        obtain ⟨b, o, cap', g, u, e, hs, hc, hc2, hS, hsz⟩ := (H.out.below HA.out.2).at hlt
        simp only [Value.slice.injEq, true_and] at e
        obtain ⟨rfl, rfl⟩ := e
        obtain ⟨a2, cap2, rfl⟩ := hS.val
        have HS : Hid (gs[k]? = some g ∧ RowE wr (.slice a2 g.2.length cap2) g.2) := ⟨hs, hS⟩
        clear hs hS
        go_wp2_with fail
        refine (szG_c g.1 _ g.2 r _ hsz HS.out.2 ⟨hr0, by omega⟩).mono ?_
        rintro e w2 ⟨r2, rfl, hr2, hb2⟩
        have HB : Hid (Below w.heap.size w w2) := HA.out.2.trans (hb2.mono HA.out.2.size)
        clear hb2
        rcases hr2 with rfl | ⟨g0, g1, g2, g3⟩
        · go_wp2
          go_ret
          exact ⟨_, rfl, .inl rfl, HB.out⟩
        · have H2 : Hid (BdE r.toNat g.2 ∧ g.1.size ≤ r.toNat) := ⟨g3, g2⟩
          have g0' : ¬ r2 < 0 := by omega
          clear g2 g3
          go_wp2
          go_roundw
          case rel =>
            refine ⟨k + 1, _, rfl, by go_num, by omega, by omega, by omega, by rw [ofs_succ HS.out.1, HFx.out]; omega, fun j t hj ht => ?_, HB.out⟩
            rcases Nat.lt_or_ge j k with q | q
            · exact HA.out.1 j t q ht
            · obtain rfl : j = k := by omega
              rw [HS.out.1] at ht
              cases ht
              have := H2.out.2
              exact ⟨by omega, Nat.le_trans H2.out.1.1 (by omega), fun i e hi => (H2.out.1.2 i e hi).mono (by omega)⟩
          case measure => simp [intOf]; omega
      · obtain rfl : k = gs.length := by omega
        go_wp2
        go_ret
        refine ⟨r, rfl, .inr ⟨hr0, by rw [HF.out]; omega, by omega, fun j s hj => HA.out.1 j s ?_ hj⟩, HA.out.2⟩
        exact (List.getElem?_eq_some_iff.1 hj).1
set_option maxHeartbeats 1000000 in
theorem szM_c (r : Msg) (u : Value) (left : Int) (w : World) (h : RM w u r) (hl : 0 ≤ left ∧ left ≤ 1048576) :
    Calls Tryd.prog 96 #[.agg #[.int .i64 r.num, u], .int .i64 left] w fun e w' => ∃ q : Int, e = .returned (.int .i64 q) ∧ (q = -1 ∨ (0 ≤ q ∧ q + (cG r.body : Int) ≤ left ∧ BdM left.toNat r)) ∧ Below w.heap.size w w' := by
  obtain ⟨num, body⟩ := r
  obtain ⟨a, cap, rfl⟩ := h.ls.val
  dsimp only at h ⊢
  have b0 : Below w.heap.size w (w.alloc (.cells #[.int .i64 num, (.slice a body.length cap)] 133)) := (Below.refl _ _).alloc (Nat.le_refl _) _
  have H : Hid (RowG (w.alloc (.cells #[.int .i64 num, (.slice a body.length cap)] 133)) (.slice a body.length cap) body) := h.ls.below b0
  clear h
  go_enter Tryd.func96, Tryd.ntmps96
  go_wp2_with fail
  refine (szGs_c _ body (left) _ H.out ⟨by omega, by omega⟩).mono ?_
  rintro e w1 ⟨q, rfl, hr, hb⟩
  have HB : Hid (Below w.heap.size w w1) := b0.trans (hb.mono (by simp))
  clear hb
  rcases hr with rfl | ⟨g0, g1, g2⟩
  · go_wp2
    go_ret
    exact ⟨_, rfl, .inl rfl, HB.out⟩
  · have g0' : ¬ q < 0 := by omega
    have H2 : Hid (BdG (left).toNat body) := g2
    clear g2
    go_wp2
    go_ret
    exact ⟨_, rfl, .inr ⟨by omega, by omega, H2.out.mono (by omega)⟩, HB.out⟩
set_option maxHeartbeats 1000000 in
theorem szsM_c (v : Value) (rs : List Msg) (left : Int) (w : World) (h : RowM w v rs) (hl : 0 ≤ left ∧ left ≤ 1048576) :
    Calls Tryd.prog 76 #[v, .int .i64 left] w fun e w' => ∃ q : Int, e = .returned (.int .i64 q) ∧ (q = -1 ∨ (0 ≤ q ∧ q + (cM rs : Int) ≤ left ∧ BdsM left.toNat rs)) ∧ Below w.heap.size w w' := by
  obtain ⟨F, hF⟩ : ∃ F : Msg → Nat, (fun r => 1 + cG r.body) = F := ⟨_, rfl⟩
  have HFx : Hid (∀ g, F g = (fun r => 1 + cG r.body) g) := fun g => by rw [← hF]
  have HF : Hid (cM rs = ofs F rs rs.length) := by show ofs _ _ _ = _; rw [← hF]
  clear hF
  have hlen := h.len
  obtain ⟨a, cap, rfl⟩ := h.val
  have H : Hid (RowM w (.slice a rs.length cap) rs) := h
  clear h
  by_cases hn : left < (rs.length : Int)
  · have hn' : left - (rs.length : Int) < 0 := by omega
    go_enter Tryd.func76, Tryd.ntmps76
    go_wp2
    go_ret
    exact ⟨_, rfl, .inl rfl, Below.refl _ _⟩
  · have hn' : ¬ left - (rs.length : Int) < 0 := by omega
    go_enter Tryd.func76, Tryd.ntmps76
    go_wp2
    go_loopw [1, 5] (fun l i wr => ∃ (k : Nat) (r : Int), l = .int .i64 r ∧ i = .int .i64 (k : Int) ∧ k ≤ rs.length ∧ 0 ≤ r ∧ r ≤ left ∧ r + (ofs F rs k : Int) + (rs.length : Int) ≤ left + 1 * (k : Int) ∧ (∀ (j : Nat) (g : Msg), j < k → rs[j]? = some g → BdM left.toNat g) ∧ Below w.heap.size w wr) (fun _ i _ => rs.length - (intOf i).toNat)
    case atStart => exact ⟨0, _, rfl, rfl, by omega, by omega, by omega, by rw [ofs_zero]; omega, fun j s h => by omega, Below.refl _ _⟩
    case round =>
      obtain ⟨k, r, rfl, rfl, hk, hr0, hr1, hr3, hA, hb⟩ := hrel
      have HA : Hid ((∀ (j : Nat) (g : Msg), j < k → rs[j]? = some g → BdM left.toNat g) ∧ Below w.heap.size w wr) := ⟨hA, hb⟩
      clear hA hb
      by_cases hlt : k < rs.length
      · have hlt' : (k : Int) < (rs.length : Int) := by omega
        obtain ⟨b, o, cap', g, u, e, hs, ⟨q0, q1⟩, hR⟩ := (H.out.below HA.out.2).at hlt
        simp only [Value.slice.injEq, true_and] at e
        obtain ⟨rfl, rfl⟩ := e
        obtain ⟨n0, c0, rfl⟩ := hR.ls.val
        have HS : Hid (rs[k]? = some g ∧ RM wr (.slice n0 g.body.length c0) g) := ⟨hs, hR⟩
        clear hs hR
        go_wp2_with fail
        refine (szM_c g _ r _ HS.out.2 ⟨hr0, by omega⟩).mono ?_
        rintro e w2 ⟨r2, rfl, hr2, hb2⟩
        have HB : Hid (Below w.heap.size w w2) := HA.out.2.trans (hb2.mono HA.out.2.size)
        clear hb2
        rcases hr2 with rfl | ⟨g0, g1, g2⟩
        · go_wp2
          go_ret
          exact ⟨_, rfl, .inl rfl, HB.out⟩
        · have H2 : Hid (BdM r.toNat g) := g2
          have g0' : ¬ r2 < 0 := by omega
          clear g2
          go_wp2
          go_roundw
          case rel =>
            refine ⟨k + 1, _, rfl, by go_num, by omega, by omega, by omega, by rw [ofs_succ HS.out.1, HFx.out]; omega, fun j t hj ht => ?_, HB.out⟩
            rcases Nat.lt_or_ge j k with q | q
            · exact HA.out.1 j t q ht
            · obtain rfl : j = k := by omega
              rw [HS.out.1] at ht
              cases ht
              exact H2.out.mono (by omega)
          case measure => simp [intOf]; omega
      · obtain rfl : k = rs.length := by omega
        go_wp2
        go_ret
        refine ⟨r, rfl, .inr ⟨hr0, by rw [HF.out]; omega, by omega, fun j s hj => HA.out.1 j s ?_ hj⟩, HA.out.2⟩
        exact (List.getElem?_eq_some_iff.1 hj).1
set_option maxHeartbeats 1000000 in
theorem szB_c (r : Bun) (u : Value) (left : Int) (w : World) (h : RB w u r) (hl : 0 ≤ left ∧ left ≤ 1048576) :
    Calls Tryd.prog 53 #[.agg #[.int .i64 r.kind, .int .i64 r.num, u], .int .i64 left] w fun e w' => ∃ q : Int, e = .returned (.int .i64 q) ∧ (q = -1 ∨ (0 ≤ q ∧ q + (cM r.msgs : Int) ≤ left ∧ BdB left.toNat r)) ∧ Below w.heap.size w w' := by
  obtain ⟨kind, num, msgs⟩ := r
  obtain ⟨a, cap, rfl⟩ := h.ls.val
  dsimp only at h ⊢
  have b0 : Below w.heap.size w (w.alloc (.cells #[.int .i64 kind, .int .i64 num, (.slice a msgs.length cap)] 93)) := (Below.refl _ _).alloc (Nat.le_refl _) _
  have H : Hid (RowM (w.alloc (.cells #[.int .i64 kind, .int .i64 num, (.slice a msgs.length cap)] 93)) (.slice a msgs.length cap) msgs) := h.ls.below b0
  clear h
  go_enter Tryd.func53, Tryd.ntmps53
  go_wp2_with fail
  refine (szsM_c _ msgs (left) _ H.out ⟨by omega, by omega⟩).mono ?_
  rintro e w1 ⟨q, rfl, hr, hb⟩
  have HB : Hid (Below w.heap.size w w1) := b0.trans (hb.mono (by simp))
  clear hb
  rcases hr with rfl | ⟨g0, g1, g2⟩
  · go_wp2
    go_ret
    exact ⟨_, rfl, .inl rfl, HB.out⟩
  · have g0' : ¬ q < 0 := by omega
    have H2 : Hid (BdsM (left).toNat msgs) := g2
    clear g2
    go_wp2
    go_ret
    exact ⟨_, rfl, .inr ⟨by omega, by omega, H2.out.mono (by omega)⟩, HB.out⟩
set_option maxHeartbeats 1000000 in
theorem szsB_c (v : Value) (rs : List Bun) (left : Int) (w : World) (h : RowB w v rs) (hl : 0 ≤ left ∧ left ≤ 1048576) :
    Calls Tryd.prog 24 #[v, .int .i64 left] w fun e w' => ∃ q : Int, e = .returned (.int .i64 q) ∧ (q = -1 ∨ (0 ≤ q ∧ q + (cB rs : Int) ≤ left + (rs.length : Int) ∧ BdsB left.toNat rs)) ∧ Below w.heap.size w w' := by
  obtain ⟨F, hF⟩ : ∃ F : Bun → Nat, (fun r => 2 + cM r.msgs) = F := ⟨_, rfl⟩
  have HFx : Hid (∀ g, F g = (fun r => 2 + cM r.msgs) g) := fun g => by rw [← hF]
  have HF : Hid (cB rs = ofs F rs rs.length) := by show ofs _ _ _ = _; rw [← hF]
  clear hF
  have hlen := h.len
  obtain ⟨a, cap, rfl⟩ := h.val
  have H : Hid (RowB w (.slice a rs.length cap) rs) := h
  clear h
  by_cases hn : left < (rs.length : Int)
  · have hn' : left - (rs.length : Int) < 0 := by omega
    go_enter Tryd.func24, Tryd.ntmps24
    go_wp2
    go_ret
    exact ⟨_, rfl, .inl rfl, Below.refl _ _⟩
  · have hn' : ¬ left - (rs.length : Int) < 0 := by omega
    go_enter Tryd.func24, Tryd.ntmps24
    go_wp2
    go_loopw [1, 5] (fun l i wr => ∃ (k : Nat) (r : Int), l = .int .i64 r ∧ i = .int .i64 (k : Int) ∧ k ≤ rs.length ∧ 0 ≤ r ∧ r ≤ left ∧ r + (ofs F rs k : Int) + (rs.length : Int) ≤ left + 2 * (k : Int) ∧ (∀ (j : Nat) (g : Bun), j < k → rs[j]? = some g → BdB left.toNat g) ∧ Below w.heap.size w wr) (fun _ i _ => rs.length - (intOf i).toNat)
    case atStart => exact ⟨0, _, rfl, rfl, by omega, by omega, by omega, by rw [ofs_zero]; omega, fun j s h => by omega, Below.refl _ _⟩
    case round =>
      obtain ⟨k, r, rfl, rfl, hk, hr0, hr1, hr3, hA, hb⟩ := hrel
      have HA : Hid ((∀ (j : Nat) (g : Bun), j < k → rs[j]? = some g → BdB left.toNat g) ∧ Below w.heap.size w wr) := ⟨hA, hb⟩
      clear hA hb
      by_cases hlt : k < rs.length
      · have hlt' : (k : Int) < (rs.length : Int) := by omega
        obtain ⟨b, o, cap', g, u, e, hs, ⟨q0, q1, q2⟩, hR⟩ := (H.out.below HA.out.2).at hlt
        simp only [Value.slice.injEq, true_and] at e
        obtain ⟨rfl, rfl⟩ := e
        obtain ⟨n0, c0, rfl⟩ := hR.ls.val
        have HS : Hid (rs[k]? = some g ∧ RB wr (.slice n0 g.msgs.length c0) g) := ⟨hs, hR⟩
        clear hs hR
        go_wp2_with fail
        refine (szB_c g _ r _ HS.out.2 ⟨hr0, by omega⟩).mono ?_
        rintro e w2 ⟨r2, rfl, hr2, hb2⟩
        have HB : Hid (Below w.heap.size w w2) := HA.out.2.trans (hb2.mono HA.out.2.size)
        clear hb2
        rcases hr2 with rfl | ⟨g0, g1, g2⟩
        · go_wp2
          go_ret
          exact ⟨_, rfl, .inl rfl, HB.out⟩
        · have H2 : Hid (BdB r.toNat g) := g2
          have g0' : ¬ r2 < 0 := by omega
          clear g2
          go_wp2
          go_roundw
          case rel =>
            refine ⟨k + 1, _, rfl, by go_num, by omega, by omega, by omega, by rw [ofs_succ HS.out.1, HFx.out]; omega, fun j t hj ht => ?_, HB.out⟩
            rcases Nat.lt_or_ge j k with q | q
            · exact HA.out.1 j t q ht
            · obtain rfl : j = k := by omega
              rw [HS.out.1] at ht
              cases ht
              exact H2.out.mono (by omega)
          case measure => simp [intOf]; omega
      · obtain rfl : k = rs.length := by omega
        go_wp2
        go_ret
        refine ⟨r, rfl, .inr ⟨hr0, by rw [HF.out]; omega, by omega, fun j s hj => HA.out.1 j s ?_ hj⟩, HA.out.2⟩
        exact (List.getElem?_eq_some_iff.1 hj).1
set_option maxHeartbeats 1000000 in
theorem szI_c (r : Ixc) (u : Value) (left : Int) (w : World) (h : RI w u r) (hl : 0 ≤ left ∧ left ≤ 1048576) :
    Calls Tryd.prog 6 #[.agg #[.string r.frm, .string r.to, .int .i64 r.num, u], .int .i64 left] w fun e w' => ∃ q : Int, e = .returned (.int .i64 q) ∧ (q = -1 ∨ (0 ≤ q ∧ q + (cB r.buns : Int) ≤ 2 * left ∧ BdI left.toNat r)) ∧ Below w.heap.size w w' := by
  obtain ⟨frm, to, num, buns⟩ := r
  have hz_frm : frm.size ≤ 9223372036854775807 := h.z_frm
  have hz_to : to.size ≤ 9223372036854775807 := h.z_to
  obtain ⟨a, cap, rfl⟩ := h.ls.val
  dsimp only at h ⊢
  have b0 : Below w.heap.size w (w.alloc (.cells #[.string frm, .string to, .int .i64 num, (.slice a buns.length cap)] 24)) := (Below.refl _ _).alloc (Nat.le_refl _) _
  have H : Hid (RowB (w.alloc (.cells #[.string frm, .string to, .int .i64 num, (.slice a buns.length cap)] 24)) (.slice a buns.length cap) buns) := h.ls.below b0
  clear h
  by_cases h_frm : left - (frm.size : Int) < 0
  · go_enter Tryd.func6, Tryd.ntmps6
    go_wp2
    go_ret
    exact ⟨_, rfl, .inl rfl, b0⟩
  by_cases h_to : left - (frm.size : Int) - (to.size : Int) < 0
  · go_enter Tryd.func6, Tryd.ntmps6
    go_wp2
    go_ret
    exact ⟨_, rfl, .inl rfl, b0⟩
  go_enter Tryd.func6, Tryd.ntmps6
  go_wp2_with fail
  refine (szsB_c _ buns (left - (frm.size : Int) - (to.size : Int)) _ H.out ⟨by omega, by omega⟩).mono ?_
  rintro e w1 ⟨q, rfl, hr, hb⟩
  have HB : Hid (Below w.heap.size w w1) := b0.trans (hb.mono (by simp))
  clear hb
  rcases hr with rfl | ⟨g0, g1, g2⟩
  · go_wp2
    go_ret
    exact ⟨_, rfl, .inl rfl, HB.out⟩
  · have g0' : ¬ q < 0 := by omega
    have g3 := g2.1
    have H2 : Hid (BdsB (left - (frm.size : Int) - (to.size : Int)).toNat buns) := g2
    clear g2
    go_wp2
    go_ret
    exact ⟨_, rfl, .inr ⟨by omega, by omega, show frm.size ≤ left.toNat by omega, show to.size ≤ left.toNat by omega, H2.out.mono (by omega)⟩, HB.out⟩
end Go.Proofs.YtmnfijgmfedpmaaDoor
