/- Texts of ours put together: Conv1, MkT, MkPtP. -/
import Derived.Test.YtmffigmidlgigaaGreatDoorRows
import Derived.Test.YtmffigmidlgigaaGreatDoorG00
import Derived.WalkKit
import Derived.ProofKit
import Derived.OpenShut
import Derived.ShutString
import Derived.ChangeOld
import Derived.Below
import Derived.WalkLawsBesides
import Derived.WalkSpells
import Derived.Deep.Light
import Derived.Handy
import Derived.Laws.BytesArg
import Derived.Test.YtmffigmidlgigaaGreatDoorG02
import Derived.Test.YtmffigmidlgigaaGreatDoorG22
namespace Go.Proofs.YtmffigmidlgigaaGreatDoor
open Go.ChangeShapes Go.WideShapes Go.ChangeAt Go.RowKit
theorem conv1 (W : World) (x : Int) : (convert 106 9 (.slice (some ⟨W.heap.size, 0, none⟩) 1 1)).run Tryz.prog (W.alloc (.cells #[.int .u8 x] 5)) = .ok (.string (strOfNums [x])) (W.alloc (.cells #[.int .u8 x] 5)) :=
  run_convert_bytes_arg _ 106 5 Tryz.underlying106 Tryz.underlying5 W.heap.size 0 1 1 [x] rfl (fun i hi => by
    rcases i with _ | i
    · simp [go_sem]
    · omega) 9 Tryz.underlying9
end Go.Proofs.YtmffigmidlgigaaGreatDoor
namespace Go.Proofs.YtmffigmidlgigaaGreatDoor
open Go.ChangeShapes Go.WideShapes Go.ChangeAt Go.RowKit
/-- The digits of a number ahead of a text. -/
def dgs : Nat → Nat → ByteArray → ByteArray
  | 0, _, acc => acc
  | f + 1, k, acc => if k = 0 then acc else dgs f (k / 10) (strOfNums [48 + ((k % 10 : Nat) : Int)] ++ acc)
theorem dgs_zero (f : Nat) (acc : ByteArray) : dgs f 0 acc = acc := by cases f <;> simp [dgs]
theorem dgs_size : ∀ (f k : Nat) (acc : ByteArray), (dgs f k acc).size ≤ acc.size + f
  | 0, _, acc => Nat.le_refl _
  | f + 1, k, acc => by
    unfold dgs
    split
    · omega
    · have := dgs_size f (k / 10) (strOfNums [48 + ((k % 10 : Nat) : Int)] ++ acc)
      rw [ByteArray.size_append, strOfNums_size] at this
      simp at this
      simp
      omega
def mtB (k : Nat) : ByteArray := ⟨#[109]⟩ ++ dgs 12 k ⟨#[]⟩
theorem mtB_size (k : Nat) : (mtB k).size ≤ 13 := by
  unfold mtB
  have := dgs_size 12 k ⟨#[]⟩
  rw [ByteArray.size_append]
  have e1 : (⟨#[109]⟩ : ByteArray).size = 1 := rfl
  have e2 : (⟨#[]⟩ : ByteArray).size = 0 := rfl
  omega
set_option maxHeartbeats 1000000 in
theorem markText_b (z : Int) (k0 : Nat) (hz : z = (k0 : Int)) (w : World) (h0 : 0 < k0) (h1 : k0 < 1000000000000) :
    Calls Tryz.prog 78 #[.int .i64 z] w fun e w' => e = .returned (.string (mtB k0)) ∧ Below w.heap.size w w' := by
  subst hz
  have h0' : (0 : Int) < (k0 : Int) := by omega
  have h1' : (k0 : Int) < 1000000000000 := by omega
  have hz0 : decide (k0 = 0) = false := by simp; omega
  go_enter Tryz.func78, Tryz.ntmps78
  go_wp2
  go_loopw [0, 3] (fun kv o wr => ∃ (f j : Nat) (acc : ByteArray), kv = .int .i64 j ∧ o = .string acc ∧ j < 10 ^ f ∧ j < 1000000000000 ∧ acc.size + f ≤ 12 ∧ dgs f j acc = dgs 12 k0 ⟨#[]⟩ ∧ Below w.heap.size w wr) (fun kv _ _ => (intOf kv).toNat)
  case atStart =>
    have e12 : (10 : Nat) ^ 12 = 1000000000000 := by decide
    exact ⟨12, k0, ⟨#[]⟩, rfl, rfl, by omega, h1, by decide, rfl, Below.refl _ _⟩
  case round =>
    obtain ⟨f, j, acc, rfl, rfl, hj, hj2, hac, hd, hb⟩ := hrel
    have H : Hid (j < 10 ^ f ∧ dgs f j acc = dgs 12 k0 ⟨#[]⟩ ∧ Below w.heap.size w wr) := ⟨hj, hd, hb⟩
    have hwz := hb.size
    clear hj hd hb
    have hcv := conv1 wr
    by_cases hp : 0 < j
    · have hp' : (0 : Int) < (j : Int) := by omega
      have hsn : (strOfNums [48 + (j : Int) % 10]).size = 1 := by rw [strOfNums_size]; rfl
      go_wp2
      obtain ⟨f, rfl⟩ : ∃ f', f = f' + 1 := by
        cases f with
        | zero =>
          have := H.out.1
          simp at this
          omega
        | succ f => exact ⟨f, rfl⟩
      have hd := H.out.2.1
      unfold dgs at hd
      rw [if_neg (by omega)] at hd
      have hlt : j / 10 < 10 ^ f := by
        have := H.out.1
        rw [Nat.pow_succ] at this
        omega
      go_roundw
      case rel => exact ⟨f, j / 10, strOfNums [48 + ((j % 10 : Nat) : Int)] ++ acc, by simp, by simp, hlt, by omega, by rw [ByteArray.size_append, strOfNums_size]; simp; omega, hd, H.out.2.2.alloc hwz _⟩
      case measure => simp [intOf]; omega
    · obtain rfl : j = 0 := by omega
      have hacc : acc.size ≤ 12 := by omega
      have hd := H.out.2.1
      rw [dgs_zero] at hd
      have HD : Hid (acc = dgs 12 k0 ⟨#[]⟩) := hd
      clear hd
      go_wp2
      go_ret
      exact ⟨by unfold mtB; rw [← HD.out]; rfl, H.out.2.2⟩
end Go.Proofs.YtmffigmidlgigaaGreatDoor
namespace Go.Proofs.YtmffigmidlgigaaGreatDoor
open Go.ChangeShapes Go.WideShapes Go.ChangeAt Go.RowKit
/-- What the marks make of one. -/
def mkP (k : Nat) (p : Ptn) : Ptn := ⟨mtB k, ((k + 1 : Nat) : Int), ((k + 2 : Nat) : Int), mkSns ((k + 3 : Nat) : Int) p.seen.length⟩
def cntP : List Ptn → Nat
  | [] => 0
  | p :: r => 3 + p.seen.length * 3 + cntP r
def mkPts (k : Nat) : List Ptn → List Ptn
  | [] => []
  | p :: r => mkP k p :: mkPts (k + (3 + p.seen.length * 3)) r
theorem mkPts_len : ∀ (k : Nat) (ps : List Ptn), (mkPts k ps).length = ps.length
  | _, [] => rfl
  | k, p :: r => by simp [mkPts, mkPts_len]
theorem cntP_app : ∀ (a b : List Ptn), cntP (a ++ b) = cntP a + cntP b
  | [], b => by simp [cntP]
  | p :: r, b => by
    simp only [List.cons_append, cntP]
    rw [cntP_app r b]
    omega
theorem cntP_take_succ {ps : List Ptn} {j : Nat} {p : Ptn} (h : ps[j]? = some p) : cntP (ps.take (j + 1)) = cntP (ps.take j) + (3 + p.seen.length * 3) := by
  rw [List.take_add_one, h, cntP_app]
  simp [cntP]
theorem cntP_take_le (ps : List Ptn) (j : Nat) : cntP (ps.take j) ≤ cntP ps := by
  have := cntP_app (ps.take j) (ps.drop j)
  rw [List.take_append_drop] at this
  omega
theorem mkPts_at : ∀ {ps : List Ptn} {k j : Nat} {p : Ptn}, ps[j]? = some p → (mkPts k ps)[j]? = some (mkP (k + cntP (ps.take j)) p)
  | [], _, _, _, h => by simp at h
  | x :: r, k, 0, p, h => by
    simp at h
    subst h
    simp [mkPts, cntP]
  | x :: r, k, j + 1, p, h => by
    have := mkPts_at (ps := r) (k := k + (3 + x.seen.length * 3)) (j := j) (p := p) (by simpa using h)
    simp only [mkPts, List.getElem?_cons_succ, this, List.take_succ_cons, cntP]
    congr 2
    omega
/-- The first j are marked. -/
def mxP (k : Nat) (ps : List Ptn) (j : Nat) : List Ptn := (mkPts k ps).take j ++ ps.drop j
theorem mxP_zero (k : Nat) (ps : List Ptn) : mxP k ps 0 = ps := by simp [mxP]
theorem mxP_end (k : Nat) (ps : List Ptn) : mxP k ps ps.length = mkPts k ps := by
  simp only [mxP, List.drop_length, List.append_nil]
  rw [List.take_of_length_le]
  rw [mkPts_len]
  exact Nat.le_refl _
theorem mxP_len {k : Nat} {ps : List Ptn} {j : Nat} (hj : j ≤ ps.length) : (mxP k ps j).length = ps.length := by
  simp only [mxP, List.length_append, List.length_take, List.length_drop, mkPts_len]
  omega
theorem mxP_at {k : Nat} {ps : List Ptn} {j : Nat} (hj : j < ps.length) {p : Ptn} (h : ps[j]? = some p) : (mxP k ps j)[j]? = some p := by
  unfold mxP
  rw [List.getElem?_append_right (by rw [List.length_take, mkPts_len]; omega), List.length_take, mkPts_len, Nat.min_eq_left (by omega), Nat.sub_self, List.getElem?_drop, Nat.add_zero]
  exact h
theorem mxP_step {k : Nat} {ps : List Ptn} {j : Nat} (hj : j < ps.length) {p : Ptn} (h : ps[j]? = some p) : mxP k ps (j + 1) = (mxP k ps j).set j (mkP (k + cntP (ps.take j)) p) := by
  unfold mxP
  have hl : ((mkPts k ps).take j).length = j := by rw [List.length_take, mkPts_len]; omega
  rw [List.take_add_one, mkPts_at h, List.set_append_right _ _ (by omega), hl, Nat.sub_self, List.append_assoc]
  congr 1
  have hd : ps.drop j = p :: ps.drop (j + 1) := by
    obtain ⟨hlt, e⟩ := List.getElem?_eq_some_iff.1 h
    rw [← e, List.getElem_cons_drop]
  rw [hd]
  rfl
/-- A list of partners whose memory may be marked: its row in block b, the lists of each in blocks of their own. -/
structure LPt (W : World) (v : Value) (ps : List Ptn) (b : Nat) (f : Nat → Value) (β : Nat → Nat) : Prop where
  shape : ∃ a cap, v = .slice a ps.length cap ∧ (ps ≠ [] → a = some ⟨b, 0, none⟩ ∧ ∃ m g, W.rowIs b 105 m g ∧ ps.length * 4 ≤ m ∧ ∀ (i : Nat) (p : Ptn), ps[i]? = some p → g (i * 4) = .string p.name ∧ g (i * 4 + 1) = .int .i64 p.low ∧ g (i * 4 + 2) = .int .i64 p.next ∧ g (i * 4 + 3) = f i)
  sn : ∀ (i : Nat) (p : Ptn), ps[i]? = some p → LSn (β i) W (f i) p.seen
  ap : ∀ (i j : Nat) (p q : Ptn), i ≠ j → ps[i]? = some p → ps[j]? = some q → p.seen ≠ [] → q.seen ≠ [] → β i ≠ β j
  len : ps.length ≤ 9223372036854775807
  nm : ∀ (i : Nat) (p : Ptn), ps[i]? = some p → p.name.size ≤ 9223372036854775807
/-- Its blocks. -/
def blkP (ps : List Ptn) (b : Nat) (β : Nat → Nat) (k : Nat) : Prop := (k = b ∧ ps ≠ []) ∨ ∃ (i : Nat) (p : Ptn), ps[i]? = some p ∧ p.seen ≠ [] ∧ k = β i
theorem LPt.row {W : World} {v : Value} {ps : List Ptn} {b : Nat} {f : Nat → Value} {β : Nat → Nat} (h : LPt W v ps b f β) : RowPt W v ps := by
  obtain ⟨a, cap, e, hc⟩ := h.shape
  refine ⟨⟨a, cap, e, fun hn => ?_⟩, h.len⟩
  obtain ⟨ea, m, g, hR, hm, hg⟩ := hc hn
  refine ⟨b, 0, ea, fun i p hi => ?_⟩
  have hlt := (List.getElem?_eq_some_iff.1 hi).1
  obtain ⟨g0, g1, g2, g3⟩ := hg i p hi
  have c0 := hR.cell (i := i * 4) (by omega)
  have c1 := hR.cell (i := i * 4 + 1) (by omega)
  have c2 := hR.cell (i := i * 4 + 2) (by omega)
  have c3 := hR.cell (i := i * 4 + 3) (by omega)
  rw [g0] at c0
  rw [g1] at c1
  rw [g2] at c2
  rw [g3] at c3
  rw [Nat.zero_add]
  exact ⟨f i, ⟨c0, c1, c2, c3⟩, ⟨(h.sn i p hi).row, h.nm i p hi⟩⟩
theorem LPt.val {W : World} {v : Value} {ps : List Ptn} {b : Nat} {f : Nat → Value} {β : Nat → Nat} (h : LPt W v ps b f β) : ∃ a cap, v = .slice a ps.length cap := by
  obtain ⟨a, cap, e, _⟩ := h.shape
  exact ⟨a, cap, e⟩
theorem LPt.of_blocks {W W' : World} {v : Value} {ps : List Ptn} {b : Nat} {f : Nat → Value} {β : Nat → Nat} (h : LPt W v ps b f β) (hb : ∀ k, blkP ps b β k → W'.heap[k]? = W.heap[k]?) : LPt W' v ps b f β := by
  refine ⟨?_, fun i p hi => (h.sn i p hi).of_block fun hn => hb _ (.inr ⟨i, p, hi, hn, rfl⟩), h.ap, h.len, h.nm⟩
  obtain ⟨a, cap, e, hc⟩ := h.shape
  refine ⟨a, cap, e, fun hn => ?_⟩
  obtain ⟨ea, m, g, hR, hm, hg⟩ := hc hn
  exact ⟨ea, m, g, hR.of_block (hb b (.inl ⟨rfl, hn⟩)), hm, hg⟩
theorem LPt.lt {W : World} {v : Value} {ps : List Ptn} {b : Nat} {f : Nat → Value} {β : Nat → Nat} (h : LPt W v ps b f β) {k : Nat} (hk : blkP ps b β k) : k < W.heap.size := by
  rcases hk with ⟨rfl, hn⟩ | ⟨i, p, hi, hn, rfl⟩
  · obtain ⟨a, cap, e, hc⟩ := h.shape
    obtain ⟨ea, m, g, hR, _⟩ := hc hn
    exact hR.lt
  · exact (h.sn i p hi).lt hn
theorem LPt.below {W W' : World} {v : Value} {ps : List Ptn} {b : Nat} {f : Nat → Value} {β : Nat → Nat} (h : LPt W v ps b f β) (hb : Below W.heap.size W W') : LPt W' v ps b f β := h.of_blocks fun k hk => hb.block k (h.lt hk)
theorem rowIs_ne {W : World} {a b t u m n : Nat} {f g : Nat → Value} (h1 : W.rowIs a t m f) (h2 : W.rowIs b u n g) (hne : t ≠ u) : a ≠ b := by
  intro e
  subst e
  obtain ⟨x1, y1, _⟩ := h1
  obtain ⟨x2, y2, _⟩ := h2
  have y3 := y1.symm.trans y2
  simp at y3
  exact hne y3.2
theorem LSn.rowIs {b : Nat} {W : World} {v : Value} {rs : List Sn} (h : LSn b W v rs) (hn : rs ≠ []) : ∃ m f, W.rowIs b 140 m f := by
  obtain ⟨a, cap, e, hc⟩ := h.shape
  obtain ⟨_, m, f, hR, _⟩ := hc hn
  exact ⟨m, f, hR⟩
theorem LPt.ne {W : World} {v : Value} {ps : List Ptn} {b : Nat} {f : Nat → Value} {β : Nat → Nat} (h : LPt W v ps b f β) {i : Nat} {p : Ptn} (hi : ps[i]? = some p) (hn : p.seen ≠ []) : β i ≠ b := by
  obtain ⟨a, cap, e, hc⟩ := h.shape
  obtain ⟨ea, m, g, hR, _⟩ := hc (by intro e; rw [e] at hi; simp at hi)
  obtain ⟨n, f', hS⟩ := (h.sn i p hi).rowIs hn
  exact rowIs_ne hS hR (by decide)
theorem get_set {ps : List Ptn} {j i : Nat} {q p : Ptn} (h : (ps.set j q)[i]? = some p) : (i = j ∧ p = q ∧ j < ps.length) ∨ (i ≠ j ∧ ps[i]? = some p) := by
  rw [List.getElem?_set] at h
  split at h
  · rename_i e
    subst e
    split at h
    · cases h
      exact .inl ⟨rfl, rfl, by assumption⟩
    · cases h
  · rename_i e
    exact .inr ⟨fun e' => e e'.symm, h⟩
/-- The scalars of one are written. -/
theorem LPt.scal {W : World} {v : Value} {ps : List Ptn} {b : Nat} {f : Nat → Value} {β : Nat → Nat} {j : Nat} {p : Ptn} (h : LPt W v ps b f β) (hj : ps[j]? = some p) (s : ByteArray) (x y : Int) (hs : s.size ≤ 9223372036854775807) :
    LPt (((W.setCell ⟨b, j * 4, none⟩ (.string s)).setCell ⟨b, j * 4 + 1, none⟩ (.int .i64 x)).setCell ⟨b, j * 4 + 2, none⟩ (.int .i64 y)) v (ps.set j ⟨s, x, y, p.seen⟩) b f β := by
  obtain ⟨a, cap, e, hc⟩ := h.shape
  have hne : ps ≠ [] := by intro e; rw [e] at hj; simp at hj
  obtain ⟨ea, m, g, hR, hm, hg⟩ := hc hne
  have old : ∀ {i : Nat} {q : Ptn}, (ps.set j ⟨s, x, y, p.seen⟩)[i]? = some q → ∃ q', ps[i]? = some q' ∧ q'.seen = q.seen := fun {i q} hi => by
    rcases get_set hi with ⟨rfl, rfl, _⟩ | ⟨_, hi⟩
    · exact ⟨p, hj, rfl⟩
    · exact ⟨q, hi, rfl⟩
  refine ⟨⟨a, cap, by rw [List.length_set]; exact e, fun _ => ⟨ea, m, _, ((hR.set (j * 4) (.string s)).set (j * 4 + 1) (.int .i64 x)).set (j * 4 + 2) (.int .i64 y), by rw [List.length_set]; exact hm, fun i q hi => ?_⟩⟩, fun i q hi => ?_, fun i k q r hik hi hk hq hr => ?_, by rw [List.length_set]; exact h.len, fun i q hi => ?_⟩
  · rcases get_set hi with ⟨rfl, rfl, _⟩ | ⟨hij, hi⟩
    · obtain ⟨_, _, _, g3⟩ := hg i p hj
      refine ⟨?_, ?_, ?_, ?_⟩ <;> (try dsimp only)
      · rw [if_neg (by omega), if_neg (by omega), if_pos rfl]
      · rw [if_neg (by omega), if_pos rfl]
      · rw [if_pos rfl]
      · rw [if_neg (by omega), if_neg (by omega), if_neg (by omega)]
        exact g3
    · obtain ⟨g0, g1, g2, g3⟩ := hg i q hi
      refine ⟨?_, ?_, ?_, ?_⟩ <;> (try dsimp only)
      all_goals rw [if_neg (by omega), if_neg (by omega), if_neg (by omega)]
      all_goals assumption
  · obtain ⟨q', hq', eq⟩ := old hi
    have hL := h.sn i q' hq'
    rw [eq] at hL
    refine hL.of_block fun hn => ?_
    have hb : β i ≠ b := h.ne hq' (by rw [eq]; exact hn)
    simp only [World.setCell, Array.getElem?_modify]
    rw [if_neg (Ne.symm hb), if_neg (Ne.symm hb), if_neg (Ne.symm hb)]
  · obtain ⟨q', hq', e1⟩ := old hi
    obtain ⟨r', hr', e2⟩ := old hk
    exact h.ap i k q' r' hik hq' hr' (by rw [e1]; exact hq) (by rw [e2]; exact hr)
  · rcases get_set hi with ⟨rfl, rfl, _⟩ | ⟨_, hi⟩
    · exact hs
    · exact h.nm i q hi
/-- The list of one is marked. -/
theorem LPt.seen {W W' : World} {v : Value} {ps : List Ptn} {b : Nat} {f : Nat → Value} {β : Nat → Nat} {j : Nat} {p : Ptn} (h : LPt W v ps b f β) (hj : ps[j]? = some p) (ss : List Sn) (hss : p.seen ≠ [] ∧ ss ≠ []) (hk : Keep (β j) W W') (hL : LSn (β j) W' (f j) ss) :
    LPt W' v (ps.set j ⟨p.name, p.low, p.next, ss⟩) b f β := by
  obtain ⟨a, cap, e, hc⟩ := h.shape
  have hne : ps ≠ [] := by intro e; rw [e] at hj; simp at hj
  obtain ⟨ea, m, g, hR, hm, hg⟩ := hc hne
  have hbj := h.ne hj hss.1
  refine ⟨⟨a, cap, by rw [List.length_set]; exact e, fun _ => ⟨ea, m, g, hR.of_block (hk.block b hR.lt (Ne.symm hbj)), by rw [List.length_set]; exact hm, fun i q hi => ?_⟩⟩, fun i q hi => ?_, fun i k q r hik hi hk' hq hr => ?_, by rw [List.length_set]; exact h.len, fun i q hi => ?_⟩
  · rcases get_set hi with ⟨rfl, rfl, _⟩ | ⟨hij, hi⟩
    · exact hg i p hj
    · exact hg i q hi
  · rcases get_set hi with ⟨rfl, rfl, _⟩ | ⟨hij, hi⟩
    · exact hL
    · exact (h.sn i q hi).of_block fun hn => hk.block _ ((h.sn i q hi).lt hn) (h.ap i j q p hij hi hj hn hss.1)
  · have old : ∀ {i : Nat} {q : Ptn}, (ps.set j ⟨p.name, p.low, p.next, ss⟩)[i]? = some q → q.seen ≠ [] → ∃ q', ps[i]? = some q' ∧ q'.seen ≠ [] := fun {i q} hi hq => by
      rcases get_set hi with ⟨rfl, rfl, _⟩ | ⟨_, hi⟩
      · exact ⟨p, hj, hss.1⟩
      · exact ⟨q, hi, hq⟩
    obtain ⟨q', h1, h2⟩ := old hi hq
    obtain ⟨r', h3, h4⟩ := old hk' hr
    exact h.ap i k q' r' hik h1 h3 h2 h4
  · rcases get_set hi with ⟨rfl, rfl, _⟩ | ⟨_, hi⟩
    · exact h.nm i p hj
    · exact h.nm i q hi
end Go.Proofs.YtmffigmidlgigaaGreatDoor
