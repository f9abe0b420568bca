/- The copies of messages, bundles and an interchange: they read as what they were made of, and nothing that was there is written. -/
import Derived.Test.YtmnfijgmfedpmaaDoorRowIx
import Derived.Test.YtmnfijgmfedpmaaDoorDeepG
namespace Go.Proofs.YtmnfijgmfedpmaaDoor
open Go.ChangeShapes Go.WideShapes Go.ChangeAt Go.RowKit
theorem OwnE.setAt {B c : Nat} {W : World} {v : Value} {es : List (List ByteArray)} (h : OwnE B W v es) (hc : c < B) (i : Nat) (x : Value) : OwnE B (W.setCell ⟨c, i, none⟩ x) v es := by
  obtain ⟨b, f, h1, h2, h3, h4⟩ := h
  refine ⟨b, f, h1, h2, h3.setOther (show b ≠ c by omega) x, fun j e hj => ?_⟩
  obtain ⟨k, g1, g2, g3⟩ := h4 j e hj
  exact ⟨k, g1, g2, g3.setOther (show k ≠ c by omega) x⟩
theorem OwnG.below {B : Nat} {W W' : World} {v : Value} {gs : List Seg} (h : OwnG B W v gs) (hb : Below W.heap.size W W') : OwnG B W' v gs := by
  obtain ⟨b, f, h1, h2, h3, h4⟩ := h
  exact ⟨b, f, h1, h2, h3.of_block (hb.block b h3.lt), fun i g hi => ⟨(h4 i g hi).1, (h4 i g hi).2.below hb⟩⟩
theorem OwnG.setAt {B c : Nat} {W : World} {v : Value} {gs : List Seg} (h : OwnG B W v gs) (hc : c < B) (i : Nat) (x : Value) : OwnG B (W.setCell ⟨c, i, none⟩ x) v gs := by
  obtain ⟨b, f, h1, h2, h3, h4⟩ := h
  exact ⟨b, f, h1, h2, h3.setOther (show b ≠ c by omega) x, fun j g hj => ⟨(h4 j g hj).1, (h4 j g hj).2.setAt (by omega) i x⟩⟩
theorem OwnG.mono {B C : Nat} {W : World} {v : Value} {gs : List Seg} (h : OwnG B W v gs) (hC : C ≤ B) : OwnG C W v gs := by
  obtain ⟨b, f, h1, h2⟩ := h
  exact ⟨b, f, by omega, h2⟩
set_option maxHeartbeats 4000000 in
theorem toM_own (r : Msg) (u : Value) (w : World) (h : RM w u r) (hP : BdM 1048576 r) :
    Calls Tryd.prog 97 #[.agg #[.int .i64 r.num, u]] w fun e w' => ∃ u', e = .returned (.agg #[.int .i64 r.num, u']) ∧ OwnG w.heap.size w' u' r.body ∧ Below w.heap.size w w' := by
  obtain ⟨num, body⟩ := r
  obtain ⟨a, cap, rfl⟩ := h.ls.val
  dsimp only at h ⊢
  have H : Hid (RowG w (.slice a body.length cap) body ∧ BdG 1048576 body) := ⟨h.ls, hP⟩
  clear h hP
  go_enter Tryd.func97, Tryd.ntmps97
  go_wp2_with fail
  have hb0 : Below w.heap.size w (((w.alloc (.cells #[.int .i64 num, (.slice a body.length cap)] 133)).alloc (.cells #[.int .i64 0, .slice none 0 0] 58)).alloc (.cells #[.int .i64 num, .slice none 0 0] 58)) := (((Below.refl _ _).alloc (Nat.le_refl _) _).alloc (by simp) _).alloc (by simp; omega) _
  have h3 := three w (.cells #[.int .i64 num, (.slice a body.length cap)] 133) (.cells #[.int .i64 0, .slice none 0 0] 58) (.cells #[.int .i64 num, .slice none 0 0] 58)
  have hs0 : (((w.alloc (.cells #[.int .i64 num, (.slice a body.length cap)] 133)).alloc (.cells #[.int .i64 0, .slice none 0 0] 58)).alloc (.cells #[.int .i64 num, .slice none 0 0] 58)).heap.size = w.heap.size + 3 := by simp
  generalize (((w.alloc (.cells #[.int .i64 num, (.slice a body.length cap)] 133)).alloc (.cells #[.int .i64 0, .slice none 0 0] 58)).alloc (.cells #[.int .i64 num, .slice none 0 0] 58)) = W0 at hb0 h3 hs0 ⊢
  refine (toGs_any _ body W0 (H.out.1.below hb0) H.out.2).mono ?_
  rintro e w1 ⟨v1, rfl, hO, hb1⟩
  obtain ⟨A1, L1, C1, hv1⟩ : ∃ A1 L1 C1, v1 = .slice A1 L1 C1 := by
    obtain ⟨b', _, _, h2, _⟩ := hO
    exact ⟨_, _, _, h2⟩
  subst hv1
  have f1 := (hb1.block (w.heap.size + 1) (by omega)).trans h3.2.1
  have f2 := (hb1.block (w.heap.size + 1 + 1) (by omega)).trans h3.2.2
  have c0 : w1.cell? ⟨w.heap.size + 1, 0, none⟩ = some (.int .i64 0) := by simp [World.cell?, f1]
  have c1 : w1.cell? ⟨w.heap.size + 1, 1, none⟩ = some (.slice none 0 0) := by simp [World.cell?, f1]
  have d0 : w1.cell? ⟨w.heap.size + 1 + 1, 0, none⟩ = some (.int .i64 num) := by simp [World.cell?, f2]
  have d1 : w1.cell? ⟨w.heap.size + 1 + 1, 1, none⟩ = some (.slice none 0 0) := by simp [World.cell?, f2]
  have z1 : ∀ o, w1.frozen? ⟨w.heap.size + 1, o, none⟩ = false := fun o => by simp [World.frozen?, f1]
  have z2 : ∀ o, w1.frozen? ⟨w.heap.size + 1 + 1, o, none⟩ = false := fun o => by simp [World.frozen?, f2]
  have HD : Hid (Below w.heap.size w w1 ∧ OwnG (w.heap.size + 3) w1 (.slice A1 L1 C1) body) := ⟨hb0.trans (hb1.mono (by omega)), by rw [← hs0]; exact hO⟩
  clear f1 f2 hb0 hb1 hO h3
  go_wp2
  have st : ∀ (W : World) (c i : Nat) (x : Value), w.heap.size ≤ c → c < w.heap.size + 3 → (Below w.heap.size w W ∧ OwnG (w.heap.size + 3) W (.slice A1 L1 C1) body) → (Below w.heap.size w (W.setCell ⟨c, i, none⟩ x) ∧ OwnG (w.heap.size + 3) (W.setCell ⟨c, i, none⟩ x) (.slice A1 L1 C1) body) := fun W c i x g1 g2 ⟨k1, k2⟩ => ⟨k1.setCell g1 x, k2.setAt g2 i x⟩
  have hF := (st _ (w.heap.size + 1) 1 (.slice A1 L1 C1) (by omega) (by omega) (st _ (w.heap.size + 1) 0 (.int .i64 num) (by omega) (by omega) (st _ (w.heap.size + 1 + 1) 1 (.slice A1 L1 C1) (by omega) (by omega) HD.out)))
  exact bodyPost_ret (v := .agg #[.int .i64 num, .slice A1 L1 C1]) (by simp [results, Tryd.results97, go_sem, c0, c1]) rfl ⟨_, rfl, hF.2.mono (by omega), hF.1⟩
theorem toM_any (r : Msg) (u : Value) (w : World) (h : RM w u r) (hP : BdM 1048576 r) :
    Calls Tryd.prog 97 #[.agg #[.int .i64 r.num, u]] w fun e w' => ∃ u', e = .returned (.agg #[.int .i64 r.num, u']) ∧ RM w' u' r ∧ Below w.heap.size w w' :=
  (toM_own r u w h hP).mono fun _ _ ⟨u', he, hO, hb⟩ => ⟨u', he, ⟨hO.row hP⟩, hb⟩
theorem infoM : (Tryd.prog.info? 58).map (fun i => (i.zero, i.size, i.bytes)) = some (some (.agg #[.int .i64 0, .slice none 0 0]), 2, 32) := by kernel_rfl
theorem run_make_M (n : Nat) (hn : n ≤ 1048576) (w : World) : (Instr.makeSlice 53 (.int .i64 (n : Int)) (.int .i64 (n : Int))).run Tryd.prog w = .ok (.slice (some ⟨w.heap.size, 0, none⟩) n n) (w.alloc (.cells (madeCells #[.int .i64 0, .slice none 0 0] (n * 2)) 58)) := by
  obtain ⟨i0, hi, hz0, hz1, hz2⟩ := info_parts infoM
  have h := run_make (P := Tryd.prog) w 53 58 i0 (.agg #[.int .i64 0, .slice none 0 0]) Tryd.underlying53 hi hz0 .i64 .i64 (n : Int) (n : Int) (by omega) (by omega) (by rw [hz2]; omega) (by omega)
  rw [hz1] at h
  simpa [Value.cells] using h
/-- What a row holds of one at place i. -/
def FM (B : Nat) (W : World) (f : Nat → Value) (i : Nat) (g : Msg) : Prop :=
  f (i * 2) = .int .i64 g.num ∧ OwnG B W (f (i * 2 + 1)) g.body
def OwnsM (B : Nat) (W : World) (v : Value) (rs : List Msg) : Prop := ∃ (b : Nat) (f : Nat → Value), B ≤ b ∧ v = .slice (some ⟨b, 0, none⟩) rs.length rs.length ∧ W.rowIs b 58 (rs.length * 2) f ∧ ∀ (i : Nat) (g : Msg), rs[i]? = some g → FM (b + 1) W f i g
theorem OwnsM.row {B : Nat} {W : World} {v : Value} {rs : List Msg} (h : OwnsM B W v rs) (hG : BdsM 1048576 rs) : RowM W v rs := by
  obtain ⟨b, f, h1, h2, h3, h4⟩ := h
  have hl := hG.1
  refine ⟨⟨_, _, h2, fun _ => ⟨b, 0, rfl, fun i g hi => ?_⟩⟩, by omega⟩
  have hlt := (List.getElem?_eq_some_iff.1 hi).1
  obtain ⟨e0, e1⟩ := h4 i g hi
  have c0 := h3.cell (i := i * 2) (by omega)
  have c1 := h3.cell (i := i * 2 + 1) (by omega)
  rw [e0] at c0
  rw [Nat.zero_add]
  have hB := hG.2 i g hi
  exact ⟨_, ⟨c0, c1⟩, ⟨e1.row hB⟩⟩
theorem OwnsM.below {B : Nat} {W W' : World} {v : Value} {rs : List Msg} (h : OwnsM B W v rs) (hb : Below W.heap.size W W') : OwnsM B W' v rs := by
  obtain ⟨b, f, h1, h2, h3, h4⟩ := h
  refine ⟨b, f, h1, h2, h3.of_block (hb.block b h3.lt), fun i g hi => ?_⟩
  obtain ⟨e0, e1⟩ := h4 i g hi
  exact ⟨e0, e1.below hb⟩
theorem OwnsM.setAt {B c : Nat} {W : World} {v : Value} {rs : List Msg} (h : OwnsM B W v rs) (hc : c < B) (i : Nat) (x : Value) : OwnsM B (W.setCell ⟨c, i, none⟩ x) v rs := by
  obtain ⟨b, f, h1, h2, h3, h4⟩ := h
  refine ⟨b, f, h1, h2, h3.setOther (show b ≠ c by omega) x, fun j g hj => ?_⟩
  obtain ⟨e0, e1⟩ := h4 j g hj
  exact ⟨e0, e1.setAt (by omega) i x⟩
theorem OwnsM.mono {B C : Nat} {W : World} {v : Value} {rs : List Msg} (h : OwnsM B W v rs) (hC : C ≤ B) : OwnsM C W v rs := by
  obtain ⟨b, f, h1, h2⟩ := h
  exact ⟨b, f, by omega, h2⟩
theorem FM.sets {B : Nat} {W : World} {f : Nat → Value} {n : Nat} {k : Nat} {g : Msg} {u : Value} {t : Nat} (hR : W.rowIs B t n f) (hO : OwnG (B + 1) W u g.body) :
    ∃ f' : Nat → Value, ((W.setCell ⟨B, k * 2, none⟩ (.int .i64 g.num)).setCell ⟨B, k * 2 + 1, none⟩ (u)).rowIs B t n f' ∧ FM (B + 1) ((W.setCell ⟨B, k * 2, none⟩ (.int .i64 g.num)).setCell ⟨B, k * 2 + 1, none⟩ (u)) f' k g ∧ ∀ (j : Nat) (q : Msg), j ≠ k → FM (B + 1) W f j q → FM (B + 1) ((W.setCell ⟨B, k * 2, none⟩ (.int .i64 g.num)).setCell ⟨B, k * 2 + 1, none⟩ (u)) f' j q := by
  have own : ∀ {a : Value} {q : Msg}, OwnG (B + 1) W a q.body → OwnG (B + 1) ((W.setCell ⟨B, k * 2, none⟩ (.int .i64 g.num)).setCell ⟨B, k * 2 + 1, none⟩ (u)) a q.body := fun h => ((h.setAt (Nat.lt_succ_self B) _ _).setAt (Nat.lt_succ_self B) _ _)
  refine ⟨_, ((hR.set (k * 2) (.int .i64 g.num)).set (k * 2 + 1) (u)), ?_, ?_⟩
  · refine ⟨?_, ?_⟩ <;> dsimp only
    · rw [if_neg (show ¬ k * 2 = k * 2 + 1 by omega), if_pos rfl]
    · rw [if_pos rfl]
      exact own hO
  · intro j q hj hq
    obtain ⟨e0, e1⟩ := hq
    refine ⟨?_, ?_⟩ <;> dsimp only
    · rw [if_neg (show ¬ j * 2 = k * 2 + 1 by omega), if_neg (show ¬ j * 2 = k * 2 by omega)]
      exact e0
    · rw [if_neg (show ¬ j * 2 + 1 = k * 2 + 1 by omega), if_neg (show ¬ j * 2 + 1 = k * 2 by omega)]
      exact own e1
set_option maxHeartbeats 2000000 in
theorem tosM_any (v : Value) (rs : List Msg) (w : World) (h : RowM w v rs) (hG : BdsM 1048576 rs) :
    Calls Tryd.prog 80 #[v] w fun e w' => ∃ v', e = .returned v' ∧ OwnsM w.heap.size w' v' rs ∧ Below w.heap.size w w' := by
  have hlen := hG.1
  obtain ⟨a, cap, rfl⟩ := h.val
  have H : Hid (RowM w (.slice a rs.length cap) rs ∧ BdsM 1048576 rs) := ⟨h, hG⟩
  clear h hG
  obtain ⟨M, hM, hMs⟩ : ∃ M : Array Value, madeCells #[.int .i64 0, .slice none 0 0] (rs.length * 2) = M ∧ M.size = rs.length * 2 := ⟨_, rfl, size_madeCells _ _⟩
  have hmk := run_make_M rs.length hlen
  rw [hM] at hmk
  obtain ⟨f0, hf0⟩ := rowIs_any w M 58 (rs.length * 2) hMs
  have HF0 : Hid ((w.alloc (.cells M 58)).rowIs w.heap.size 58 (rs.length * 2) f0) := hf0
  clear hM hMs hf0
  go_enter Tryd.func80, Tryd.ntmps80
  go_wp2
  go_loopw [4] (fun i wr => ∃ (k : Nat) (f : Nat → Value), i = .int .i64 (k : Int) ∧ k ≤ rs.length ∧ wr.rowIs w.heap.size 58 (rs.length * 2) f ∧ (∀ (j : Nat) (g : Msg), j < k → rs[j]? = some g → FM (w.heap.size + 1) wr f j g) ∧ Below w.heap.size w wr) (fun i _ => rs.length - (intOf i).toNat)
  case atStart => exact ⟨0, f0, rfl, by omega, HF0.out, fun j e hj => by omega, (Below.refl _ _).alloc (Nat.le_refl _) _⟩
  case round =>
    obtain ⟨k, f, rfl, hk, hR, hA, hb⟩ := hrel
    by_cases hlt : k < rs.length
    · have hlt' : (k : Int) < (rs.length : Int) := by omega
      obtain ⟨b, o, cap', g, u, ee, hs, ⟨q0, q1⟩, hS⟩ := (H.out.1.below hb).at hlt
      simp only [Value.slice.injEq, true_and] at ee
      obtain ⟨rfl, rfl⟩ := ee
      obtain ⟨n0, c0, rfl⟩ := hS.ls.val
      have HS : Hid (rs[k]? = some g ∧ RM wr (.slice n0 g.body.length c0) g ∧ wr.rowIs w.heap.size 58 (rs.length * 2) f ∧ (∀ (j : Nat) (g : Msg), j < k → rs[j]? = some g → FM (w.heap.size + 1) wr f j g) ∧ Below w.heap.size w wr) := ⟨hs, hS, hR, hA, hb⟩
      clear hs hS hR hA hb
      go_wp2_with fail
      refine (toM_own g _ _ HS.out.2.1 (H.out.2.2 k g HS.out.1)).mono ?_
      rintro ee w1 ⟨u', rfl, hO, hb1⟩
      have hlt0 := HS.out.2.2.1.lt
      obtain ⟨A1, L1, C1, hv1⟩ : ∃ A' L' C', u' = .slice A' L' C' := by
        obtain ⟨b', _, _, h2, _⟩ := hO
        exact ⟨_, _, _, h2⟩
      subst hv1
      have hR1 : w1.rowIs w.heap.size 58 (rs.length * 2) f := HS.out.2.2.1.of_block (hb1.block _ hlt0)
      have hfz := hR1.frozen
      have k0 := hR1.cell (i := k * 2) (by omega)
      have k1 := hR1.cell (i := k * 2 + 1) (by omega)
      have hA1 : ∀ (j : Nat) (g : Msg), j < k → rs[j]? = some g → FM (w.heap.size + 1) w1 f j g := fun j e hj he => by
        obtain ⟨e0, e1⟩ := HS.out.2.2.2.1 j e hj he
        exact ⟨e0, e1.below hb1⟩
      have H1 : Hid (rs[k]? = some g ∧ w1.rowIs w.heap.size 58 (rs.length * 2) f ∧ (∀ (j : Nat) (g : Msg), j < k → rs[j]? = some g → FM (w.heap.size + 1) w1 f j g) ∧ Below w.heap.size w w1 ∧ OwnG (w.heap.size + 1) w1 (.slice A1 L1 C1) g.body) := ⟨HS.out.1, hR1, hA1, HS.out.2.2.2.2.trans (hb1.mono HS.out.2.2.2.2.size), hO.mono hlt0⟩
      clear HS hR1 hA1 hb1 hO
      go_wp2
      go_roundw
      case rel =>
        obtain ⟨f', r1, r2, r3⟩ := FM.sets (k := k) H1.out.2.1 H1.out.2.2.2.2
        refine ⟨k + 1, f', by go_num, by omega, r1, fun j t hj ht => ?_, ((H1.out.2.2.2.1.setCell (Nat.le_refl _) _).setCell (Nat.le_refl _) _)⟩
        by_cases e1 : j = k
        · subst e1
          rw [H1.out.1] at ht
          cases ht
          exact r2
        · exact r3 j t e1 (H1.out.2.2.1 j t (by omega) ht)
      case measure => simp [intOf]; omega
    · obtain rfl : k = rs.length := by omega
      have HS : Hid (wr.rowIs w.heap.size 58 (rs.length * 2) f ∧ (∀ (j : Nat) (g : Msg), j < rs.length → rs[j]? = some g → FM (w.heap.size + 1) wr f j g) ∧ Below w.heap.size w wr) := ⟨hR, hA, hb⟩
      clear hR hA hb
      go_wp2
      go_ret
      exact ⟨_, rfl, ⟨w.heap.size, f, Nat.le_refl _, rfl, HS.out.1, fun i e hi => HS.out.2.1 i e (List.getElem?_eq_some_iff.1 hi).1 hi⟩, HS.out.2.2⟩
set_option maxHeartbeats 4000000 in
theorem toB_own (r : Bun) (u : Value) (w : World) (h : RB w u r) (hP : BdB 1048576 r) :
    Calls Tryd.prog 56 #[.agg #[.int .i64 r.kind, .int .i64 r.num, u]] w fun e w' => ∃ u', e = .returned (.agg #[.int .i64 r.kind, .int .i64 r.num, u']) ∧ OwnsM w.heap.size w' u' r.msgs ∧ Below w.heap.size w w' := by
  obtain ⟨kind, num, msgs⟩ := r
  obtain ⟨a, cap, rfl⟩ := h.ls.val
  dsimp only at h ⊢
  have H : Hid (RowM w (.slice a msgs.length cap) msgs ∧ BdsM 1048576 msgs) := ⟨h.ls, hP⟩
  clear h hP
  go_enter Tryd.func56, Tryd.ntmps56
  go_wp2_with fail
  have hb0 : Below w.heap.size w (((w.alloc (.cells #[.int .i64 kind, .int .i64 num, (.slice a msgs.length cap)] 93)).alloc (.cells #[.int .i64 0, .int .i64 0, .slice none 0 0] 55)).alloc (.cells #[.int .i64 kind, .int .i64 num, .slice none 0 0] 55)) := (((Below.refl _ _).alloc (Nat.le_refl _) _).alloc (by simp) _).alloc (by simp; omega) _
  have h3 := three w (.cells #[.int .i64 kind, .int .i64 num, (.slice a msgs.length cap)] 93) (.cells #[.int .i64 0, .int .i64 0, .slice none 0 0] 55) (.cells #[.int .i64 kind, .int .i64 num, .slice none 0 0] 55)
  have hs0 : (((w.alloc (.cells #[.int .i64 kind, .int .i64 num, (.slice a msgs.length cap)] 93)).alloc (.cells #[.int .i64 0, .int .i64 0, .slice none 0 0] 55)).alloc (.cells #[.int .i64 kind, .int .i64 num, .slice none 0 0] 55)).heap.size = w.heap.size + 3 := by simp
  generalize (((w.alloc (.cells #[.int .i64 kind, .int .i64 num, (.slice a msgs.length cap)] 93)).alloc (.cells #[.int .i64 0, .int .i64 0, .slice none 0 0] 55)).alloc (.cells #[.int .i64 kind, .int .i64 num, .slice none 0 0] 55)) = W0 at hb0 h3 hs0 ⊢
  refine (tosM_any _ msgs W0 (H.out.1.below hb0) H.out.2).mono ?_
  rintro e w1 ⟨v1, rfl, hO, hb1⟩
  obtain ⟨A1, L1, C1, hv1⟩ : ∃ A1 L1 C1, v1 = .slice A1 L1 C1 := by
    obtain ⟨b', _, _, h2, _⟩ := hO
    exact ⟨_, _, _, h2⟩
  subst hv1
  have f1 := (hb1.block (w.heap.size + 1) (by omega)).trans h3.2.1
  have f2 := (hb1.block (w.heap.size + 1 + 1) (by omega)).trans h3.2.2
  have c0 : w1.cell? ⟨w.heap.size + 1, 0, none⟩ = some (.int .i64 0) := by simp [World.cell?, f1]
  have c1 : w1.cell? ⟨w.heap.size + 1, 1, none⟩ = some (.int .i64 0) := by simp [World.cell?, f1]
  have c2 : w1.cell? ⟨w.heap.size + 1, 2, none⟩ = some (.slice none 0 0) := by simp [World.cell?, f1]
  have d0 : w1.cell? ⟨w.heap.size + 1 + 1, 0, none⟩ = some (.int .i64 kind) := by simp [World.cell?, f2]
  have d1 : w1.cell? ⟨w.heap.size + 1 + 1, 1, none⟩ = some (.int .i64 num) := by simp [World.cell?, f2]
  have d2 : w1.cell? ⟨w.heap.size + 1 + 1, 2, none⟩ = some (.slice none 0 0) := by simp [World.cell?, f2]
  have z1 : ∀ o, w1.frozen? ⟨w.heap.size + 1, o, none⟩ = false := fun o => by simp [World.frozen?, f1]
  have z2 : ∀ o, w1.frozen? ⟨w.heap.size + 1 + 1, o, none⟩ = false := fun o => by simp [World.frozen?, f2]
  have HD : Hid (Below w.heap.size w w1 ∧ OwnsM (w.heap.size + 3) w1 (.slice A1 L1 C1) msgs) := ⟨hb0.trans (hb1.mono (by omega)), by rw [← hs0]; exact hO⟩
  clear f1 f2 hb0 hb1 hO h3
  go_wp2
  have st : ∀ (W : World) (c i : Nat) (x : Value), w.heap.size ≤ c → c < w.heap.size + 3 → (Below w.heap.size w W ∧ OwnsM (w.heap.size + 3) W (.slice A1 L1 C1) msgs) → (Below w.heap.size w (W.setCell ⟨c, i, none⟩ x) ∧ OwnsM (w.heap.size + 3) (W.setCell ⟨c, i, none⟩ x) (.slice A1 L1 C1) msgs) := fun W c i x g1 g2 ⟨k1, k2⟩ => ⟨k1.setCell g1 x, k2.setAt g2 i x⟩
  have hF := (st _ (w.heap.size + 1) 2 (.slice A1 L1 C1) (by omega) (by omega) (st _ (w.heap.size + 1) 1 (.int .i64 num) (by omega) (by omega) (st _ (w.heap.size + 1) 0 (.int .i64 kind) (by omega) (by omega) (st _ (w.heap.size + 1 + 1) 2 (.slice A1 L1 C1) (by omega) (by omega) HD.out))))
  exact bodyPost_ret (v := .agg #[.int .i64 kind, .int .i64 num, .slice A1 L1 C1]) (by simp [results, Tryd.results56, go_sem, c0, c1, c2]) rfl ⟨_, rfl, hF.2.mono (by omega), hF.1⟩
theorem toB_any (r : Bun) (u : Value) (w : World) (h : RB w u r) (hP : BdB 1048576 r) :
    Calls Tryd.prog 56 #[.agg #[.int .i64 r.kind, .int .i64 r.num, u]] w fun e w' => ∃ u', e = .returned (.agg #[.int .i64 r.kind, .int .i64 r.num, u']) ∧ RB w' u' r ∧ Below w.heap.size w w' :=
  (toB_own r u w h hP).mono fun _ _ ⟨u', he, hO, hb⟩ => ⟨u', he, ⟨hO.row hP⟩, hb⟩
theorem infoB : (Tryd.prog.info? 55).map (fun i => (i.zero, i.size, i.bytes)) = some (some (.agg #[.int .i64 0, .int .i64 0, .slice none 0 0]), 3, 40) := by kernel_rfl
theorem run_make_B (n : Nat) (hn : n ≤ 1048576) (w : World) : (Instr.makeSlice 28 (.int .i64 (n : Int)) (.int .i64 (n : Int))).run Tryd.prog w = .ok (.slice (some ⟨w.heap.size, 0, none⟩) n n) (w.alloc (.cells (madeCells #[.int .i64 0, .int .i64 0, .slice none 0 0] (n * 3)) 55)) := by
  obtain ⟨i0, hi, hz0, hz1, hz2⟩ := info_parts infoB
  have h := run_make (P := Tryd.prog) w 28 55 i0 (.agg #[.int .i64 0, .int .i64 0, .slice none 0 0]) Tryd.underlying28 hi hz0 .i64 .i64 (n : Int) (n : Int) (by omega) (by omega) (by rw [hz2]; omega) (by omega)
  rw [hz1] at h
  simpa [Value.cells] using h
/-- What a row holds of one at place i. -/
def FB (B : Nat) (W : World) (f : Nat → Value) (i : Nat) (g : Bun) : Prop :=
  f (i * 3) = .int .i64 g.kind ∧ f (i * 3 + 1) = .int .i64 g.num ∧ OwnsM B W (f (i * 3 + 2)) g.msgs
def OwnsB (B : Nat) (W : World) (v : Value) (rs : List Bun) : Prop := ∃ (b : Nat) (f : Nat → Value), B ≤ b ∧ v = .slice (some ⟨b, 0, none⟩) rs.length rs.length ∧ W.rowIs b 55 (rs.length * 3) f ∧ ∀ (i : Nat) (g : Bun), rs[i]? = some g → FB (b + 1) W f i g
theorem OwnsB.row {B : Nat} {W : World} {v : Value} {rs : List Bun} (h : OwnsB B W v rs) (hG : BdsB 1048576 rs) : RowB W v rs := by
  obtain ⟨b, f, h1, h2, h3, h4⟩ := h
  have hl := hG.1
  refine ⟨⟨_, _, h2, fun _ => ⟨b, 0, rfl, fun i g hi => ?_⟩⟩, by omega⟩
  have hlt := (List.getElem?_eq_some_iff.1 hi).1
  obtain ⟨e0, e1, e2⟩ := h4 i g hi
  have c0 := h3.cell (i := i * 3) (by omega)
  have c1 := h3.cell (i := i * 3 + 1) (by omega)
  have c2 := h3.cell (i := i * 3 + 2) (by omega)
  rw [e0] at c0
  rw [e1] at c1
  rw [Nat.zero_add]
  have hB := hG.2 i g hi
  exact ⟨_, ⟨c0, c1, c2⟩, ⟨e2.row hB⟩⟩
theorem OwnsB.below {B : Nat} {W W' : World} {v : Value} {rs : List Bun} (h : OwnsB B W v rs) (hb : Below W.heap.size W W') : OwnsB B W' v rs := by
  obtain ⟨b, f, h1, h2, h3, h4⟩ := h
  refine ⟨b, f, h1, h2, h3.of_block (hb.block b h3.lt), fun i g hi => ?_⟩
  obtain ⟨e0, e1, e2⟩ := h4 i g hi
  exact ⟨e0, e1, e2.below hb⟩
theorem OwnsB.setAt {B c : Nat} {W : World} {v : Value} {rs : List Bun} (h : OwnsB B W v rs) (hc : c < B) (i : Nat) (x : Value) : OwnsB B (W.setCell ⟨c, i, none⟩ x) v rs := by
  obtain ⟨b, f, h1, h2, h3, h4⟩ := h
  refine ⟨b, f, h1, h2, h3.setOther (show b ≠ c by omega) x, fun j g hj => ?_⟩
  obtain ⟨e0, e1, e2⟩ := h4 j g hj
  exact ⟨e0, e1, e2.setAt (by omega) i x⟩
theorem OwnsB.mono {B C : Nat} {W : World} {v : Value} {rs : List Bun} (h : OwnsB B W v rs) (hC : C ≤ B) : OwnsB C W v rs := by
  obtain ⟨b, f, h1, h2⟩ := h
  exact ⟨b, f, by omega, h2⟩
theorem FB.sets {B : Nat} {W : World} {f : Nat → Value} {n : Nat} {k : Nat} {g : Bun} {u : Value} {t : Nat} (hR : W.rowIs B t n f) (hO : OwnsM (B + 1) W u g.msgs) :
    ∃ f' : Nat → Value, (((W.setCell ⟨B, k * 3, none⟩ (.int .i64 g.kind)).setCell ⟨B, k * 3 + 1, none⟩ (.int .i64 g.num)).setCell ⟨B, k * 3 + 2, none⟩ (u)).rowIs B t n f' ∧ FB (B + 1) (((W.setCell ⟨B, k * 3, none⟩ (.int .i64 g.kind)).setCell ⟨B, k * 3 + 1, none⟩ (.int .i64 g.num)).setCell ⟨B, k * 3 + 2, none⟩ (u)) f' k g ∧ ∀ (j : Nat) (q : Bun), j ≠ k → FB (B + 1) W f j q → FB (B + 1) (((W.setCell ⟨B, k * 3, none⟩ (.int .i64 g.kind)).setCell ⟨B, k * 3 + 1, none⟩ (.int .i64 g.num)).setCell ⟨B, k * 3 + 2, none⟩ (u)) f' j q := by
  have own : ∀ {a : Value} {q : Bun}, OwnsM (B + 1) W a q.msgs → OwnsM (B + 1) (((W.setCell ⟨B, k * 3, none⟩ (.int .i64 g.kind)).setCell ⟨B, k * 3 + 1, none⟩ (.int .i64 g.num)).setCell ⟨B, k * 3 + 2, none⟩ (u)) a q.msgs := fun h => (((h.setAt (Nat.lt_succ_self B) _ _).setAt (Nat.lt_succ_self B) _ _).setAt (Nat.lt_succ_self B) _ _)
  refine ⟨_, (((hR.set (k * 3) (.int .i64 g.kind)).set (k * 3 + 1) (.int .i64 g.num)).set (k * 3 + 2) (u)), ?_, ?_⟩
  · refine ⟨?_, ?_, ?_⟩ <;> dsimp only
    · rw [if_neg (show ¬ k * 3 = k * 3 + 2 by omega), if_neg (show ¬ k * 3 = k * 3 + 1 by omega), if_pos rfl]
    · rw [if_neg (show ¬ k * 3 + 1 = k * 3 + 2 by omega), if_pos rfl]
    · rw [if_pos rfl]
      exact own hO
  · intro j q hj hq
    obtain ⟨e0, e1, e2⟩ := hq
    refine ⟨?_, ?_, ?_⟩ <;> dsimp only
    · rw [if_neg (show ¬ j * 3 = k * 3 + 2 by omega), if_neg (show ¬ j * 3 = k * 3 + 1 by omega), if_neg (show ¬ j * 3 = k * 3 by omega)]
      exact e0
    · rw [if_neg (show ¬ j * 3 + 1 = k * 3 + 2 by omega), if_neg (show ¬ j * 3 + 1 = k * 3 + 1 by omega), if_neg (show ¬ j * 3 + 1 = k * 3 by omega)]
      exact e1
    · rw [if_neg (show ¬ j * 3 + 2 = k * 3 + 2 by omega), if_neg (show ¬ j * 3 + 2 = k * 3 + 1 by omega), if_neg (show ¬ j * 3 + 2 = k * 3 by omega)]
      exact own e2
set_option maxHeartbeats 2000000 in
theorem tosB_any (v : Value) (rs : List Bun) (w : World) (h : RowB w v rs) (hG : BdsB 1048576 rs) :
    Calls Tryd.prog 31 #[v] w fun e w' => ∃ v', e = .returned v' ∧ OwnsB w.heap.size w' v' rs ∧ Below w.heap.size w w' := by
  have hlen := hG.1
  obtain ⟨a, cap, rfl⟩ := h.val
  have H : Hid (RowB w (.slice a rs.length cap) rs ∧ BdsB 1048576 rs) := ⟨h, hG⟩
  clear h hG
  obtain ⟨M, hM, hMs⟩ : ∃ M : Array Value, madeCells #[.int .i64 0, .int .i64 0, .slice none 0 0] (rs.length * 3) = M ∧ M.size = rs.length * 3 := ⟨_, rfl, size_madeCells _ _⟩
  have hmk := run_make_B rs.length hlen
  rw [hM] at hmk
  obtain ⟨f0, hf0⟩ := rowIs_any w M 55 (rs.length * 3) hMs
  have HF0 : Hid ((w.alloc (.cells M 55)).rowIs w.heap.size 55 (rs.length * 3) f0) := hf0
  clear hM hMs hf0
  go_enter Tryd.func31, Tryd.ntmps31
  go_wp2
  go_loopw [4] (fun i wr => ∃ (k : Nat) (f : Nat → Value), i = .int .i64 (k : Int) ∧ k ≤ rs.length ∧ wr.rowIs w.heap.size 55 (rs.length * 3) f ∧ (∀ (j : Nat) (g : Bun), j < k → rs[j]? = some g → FB (w.heap.size + 1) wr f j g) ∧ Below w.heap.size w wr) (fun i _ => rs.length - (intOf i).toNat)
  case atStart => exact ⟨0, f0, rfl, by omega, HF0.out, fun j e hj => by omega, (Below.refl _ _).alloc (Nat.le_refl _) _⟩
  case round =>
    obtain ⟨k, f, rfl, hk, hR, hA, hb⟩ := hrel
    by_cases hlt : k < rs.length
    · have hlt' : (k : Int) < (rs.length : Int) := by omega
      obtain ⟨b, o, cap', g, u, ee, hs, ⟨q0, q1, q2⟩, hS⟩ := (H.out.1.below hb).at hlt
      simp only [Value.slice.injEq, true_and] at ee
      obtain ⟨rfl, rfl⟩ := ee
      obtain ⟨n0, c0, rfl⟩ := hS.ls.val
      have HS : Hid (rs[k]? = some g ∧ RB wr (.slice n0 g.msgs.length c0) g ∧ wr.rowIs w.heap.size 55 (rs.length * 3) f ∧ (∀ (j : Nat) (g : Bun), j < k → rs[j]? = some g → FB (w.heap.size + 1) wr f j g) ∧ Below w.heap.size w wr) := ⟨hs, hS, hR, hA, hb⟩
      clear hs hS hR hA hb
      go_wp2_with fail
      refine (toB_own g _ _ HS.out.2.1 (H.out.2.2 k g HS.out.1)).mono ?_
      rintro ee w1 ⟨u', rfl, hO, hb1⟩
      have hlt0 := HS.out.2.2.1.lt
      obtain ⟨A1, L1, C1, hv1⟩ : ∃ A' L' C', u' = .slice A' L' C' := by
        obtain ⟨b', _, _, h2, _⟩ := hO
        exact ⟨_, _, _, h2⟩
      subst hv1
      have hR1 : w1.rowIs w.heap.size 55 (rs.length * 3) f := HS.out.2.2.1.of_block (hb1.block _ hlt0)
      have hfz := hR1.frozen
      have k0 := hR1.cell (i := k * 3) (by omega)
      have k1 := hR1.cell (i := k * 3 + 1) (by omega)
      have k2 := hR1.cell (i := k * 3 + 2) (by omega)
      have hA1 : ∀ (j : Nat) (g : Bun), j < k → rs[j]? = some g → FB (w.heap.size + 1) w1 f j g := fun j e hj he => by
        obtain ⟨e0, e1, e2⟩ := HS.out.2.2.2.1 j e hj he
        exact ⟨e0, e1, e2.below hb1⟩
      have H1 : Hid (rs[k]? = some g ∧ w1.rowIs w.heap.size 55 (rs.length * 3) f ∧ (∀ (j : Nat) (g : Bun), j < k → rs[j]? = some g → FB (w.heap.size + 1) w1 f j g) ∧ Below w.heap.size w w1 ∧ OwnsM (w.heap.size + 1) w1 (.slice A1 L1 C1) g.msgs) := ⟨HS.out.1, hR1, hA1, HS.out.2.2.2.2.trans (hb1.mono HS.out.2.2.2.2.size), hO.mono hlt0⟩
      clear HS hR1 hA1 hb1 hO
      go_wp2
      go_roundw
      case rel =>
        obtain ⟨f', r1, r2, r3⟩ := FB.sets (k := k) H1.out.2.1 H1.out.2.2.2.2
        refine ⟨k + 1, f', by go_num, by omega, r1, fun j t hj ht => ?_, (((H1.out.2.2.2.1.setCell (Nat.le_refl _) _).setCell (Nat.le_refl _) _).setCell (Nat.le_refl _) _)⟩
        by_cases e1 : j = k
        · subst e1
          rw [H1.out.1] at ht
          cases ht
          exact r2
        · exact r3 j t e1 (H1.out.2.2.1 j t (by omega) ht)
      case measure => simp [intOf]; omega
    · obtain rfl : k = rs.length := by omega
      have HS : Hid (wr.rowIs w.heap.size 55 (rs.length * 3) f ∧ (∀ (j : Nat) (g : Bun), j < rs.length → rs[j]? = some g → FB (w.heap.size + 1) wr f j g) ∧ Below w.heap.size w wr) := ⟨hR, hA, hb⟩
      clear hR hA hb
      go_wp2
      go_ret
      exact ⟨_, rfl, ⟨w.heap.size, f, Nat.le_refl _, rfl, HS.out.1, fun i e hi => HS.out.2.1 i e (List.getElem?_eq_some_iff.1 hi).1 hi⟩, HS.out.2.2⟩
set_option maxHeartbeats 4000000 in
theorem toI_own (r : Ixc) (u : Value) (w : World) (h : RI w u r) (hP : BdI 1048576 r) :
    Calls Tryd.prog 8 #[.agg #[.string r.frm, .string r.to, .int .i64 r.num, u]] w fun e w' => ∃ u', e = .returned (.agg #[.string r.frm, .string r.to, .int .i64 r.num, u']) ∧ OwnsB w.heap.size w' u' r.buns ∧ Below w.heap.size w w' := by
  obtain ⟨frm, to, num, buns⟩ := r
  obtain ⟨a, cap, rfl⟩ := h.ls.val
  dsimp only at h ⊢
  have H : Hid (RowB w (.slice a buns.length cap) buns ∧ BdsB 1048576 buns) := ⟨h.ls, hP.2.2⟩
  clear h hP
  go_enter Tryd.func8, Tryd.ntmps8
  go_wp2_with fail
  have hb0 : Below w.heap.size w (((w.alloc (.cells #[.string frm, .string to, .int .i64 num, (.slice a buns.length cap)] 24)).alloc (.cells #[.string ⟨#[]⟩, .string ⟨#[]⟩, .int .i64 0, .slice none 0 0] 30)).alloc (.cells #[.string frm, .string to, .int .i64 num, .slice none 0 0] 30)) := (((Below.refl _ _).alloc (Nat.le_refl _) _).alloc (by simp) _).alloc (by simp; omega) _
  have h3 := three w (.cells #[.string frm, .string to, .int .i64 num, (.slice a buns.length cap)] 24) (.cells #[.string ⟨#[]⟩, .string ⟨#[]⟩, .int .i64 0, .slice none 0 0] 30) (.cells #[.string frm, .string to, .int .i64 num, .slice none 0 0] 30)
  have hs0 : (((w.alloc (.cells #[.string frm, .string to, .int .i64 num, (.slice a buns.length cap)] 24)).alloc (.cells #[.string ⟨#[]⟩, .string ⟨#[]⟩, .int .i64 0, .slice none 0 0] 30)).alloc (.cells #[.string frm, .string to, .int .i64 num, .slice none 0 0] 30)).heap.size = w.heap.size + 3 := by simp
  generalize (((w.alloc (.cells #[.string frm, .string to, .int .i64 num, (.slice a buns.length cap)] 24)).alloc (.cells #[.string ⟨#[]⟩, .string ⟨#[]⟩, .int .i64 0, .slice none 0 0] 30)).alloc (.cells #[.string frm, .string to, .int .i64 num, .slice none 0 0] 30)) = W0 at hb0 h3 hs0 ⊢
  refine (tosB_any _ buns W0 (H.out.1.below hb0) H.out.2).mono ?_
  rintro e w1 ⟨v1, rfl, hO, hb1⟩
  obtain ⟨A1, L1, C1, hv1⟩ : ∃ A1 L1 C1, v1 = .slice A1 L1 C1 := by
    obtain ⟨b', _, _, h2, _⟩ := hO
    exact ⟨_, _, _, h2⟩
  subst hv1
  have f1 := (hb1.block (w.heap.size + 1) (by omega)).trans h3.2.1
  have f2 := (hb1.block (w.heap.size + 1 + 1) (by omega)).trans h3.2.2
  have c0 : w1.cell? ⟨w.heap.size + 1, 0, none⟩ = some (.string ⟨#[]⟩) := by simp [World.cell?, f1]
  have c1 : w1.cell? ⟨w.heap.size + 1, 1, none⟩ = some (.string ⟨#[]⟩) := by simp [World.cell?, f1]
  have c2 : w1.cell? ⟨w.heap.size + 1, 2, none⟩ = some (.int .i64 0) := by simp [World.cell?, f1]
  have c3 : w1.cell? ⟨w.heap.size + 1, 3, none⟩ = some (.slice none 0 0) := by simp [World.cell?, f1]
  have d0 : w1.cell? ⟨w.heap.size + 1 + 1, 0, none⟩ = some (.string frm) := by simp [World.cell?, f2]
  have d1 : w1.cell? ⟨w.heap.size + 1 + 1, 1, none⟩ = some (.string to) := by simp [World.cell?, f2]
  have d2 : w1.cell? ⟨w.heap.size + 1 + 1, 2, none⟩ = some (.int .i64 num) := by simp [World.cell?, f2]
  have d3 : w1.cell? ⟨w.heap.size + 1 + 1, 3, none⟩ = some (.slice none 0 0) := by simp [World.cell?, f2]
  have z1 : ∀ o, w1.frozen? ⟨w.heap.size + 1, o, none⟩ = false := fun o => by simp [World.frozen?, f1]
  have z2 : ∀ o, w1.frozen? ⟨w.heap.size + 1 + 1, o, none⟩ = false := fun o => by simp [World.frozen?, f2]
  have HD : Hid (Below w.heap.size w w1 ∧ OwnsB (w.heap.size + 3) w1 (.slice A1 L1 C1) buns) := ⟨hb0.trans (hb1.mono (by omega)), by rw [← hs0]; exact hO⟩
  clear f1 f2 hb0 hb1 hO h3
  go_wp2
  have st : ∀ (W : World) (c i : Nat) (x : Value), w.heap.size ≤ c → c < w.heap.size + 3 → (Below w.heap.size w W ∧ OwnsB (w.heap.size + 3) W (.slice A1 L1 C1) buns) → (Below w.heap.size w (W.setCell ⟨c, i, none⟩ x) ∧ OwnsB (w.heap.size + 3) (W.setCell ⟨c, i, none⟩ x) (.slice A1 L1 C1) buns) := fun W c i x g1 g2 ⟨k1, k2⟩ => ⟨k1.setCell g1 x, k2.setAt g2 i x⟩
  have hF := (st _ (w.heap.size + 1) 3 (.slice A1 L1 C1) (by omega) (by omega) (st _ (w.heap.size + 1) 2 (.int .i64 num) (by omega) (by omega) (st _ (w.heap.size + 1) 1 (.string to) (by omega) (by omega) (st _ (w.heap.size + 1) 0 (.string frm) (by omega) (by omega) (st _ (w.heap.size + 1 + 1) 3 (.slice A1 L1 C1) (by omega) (by omega) HD.out)))))
  exact bodyPost_ret (v := .agg #[.string frm, .string to, .int .i64 num, .slice A1 L1 C1]) (by simp [results, Tryd.results8, go_sem, c0, c1, c2, c3]) rfl ⟨_, rfl, hF.2.mono (by omega), hF.1⟩
theorem toI_any (r : Ixc) (u : Value) (w : World) (h : RI w u r) (hP : BdI 1048576 r) :
    Calls Tryd.prog 8 #[.agg #[.string r.frm, .string r.to, .int .i64 r.num, u]] w fun e w' => ∃ u', e = .returned (.agg #[.string r.frm, .string r.to, .int .i64 r.num, u']) ∧ RI w' u' r ∧ Below w.heap.size w w' :=
  (toI_own r u w h hP).mono fun _ _ ⟨u', he, hO, hb⟩ => ⟨u', he, ⟨hO.row hP.2.2, h.z_frm, h.z_to⟩, hb⟩
end Go.Proofs.YtmnfijgmfedpmaaDoor
