/- Texts of ours put together: ToL, ToPs, EqS, EqL. -/
import Derived.Test.YtkaolpnbddjdpaaGreatDoorG02
import Derived.Test.YtkaolpnbddjdpaaGreatDoorG35
import Derived.Test.YtkaolpnbddjdpaaGreatDoorG00
import Derived.Deep.RegionHeld3
namespace Go.Proofs.YtkaolpnbddjdpaaGreatDoor
open Go.ChangeShapes Go.WideShapes Go.ChangeAt Go.RowKit
theorem infoLnT : (Tryz.prog.info? 121).map (fun i => (i.zero, i.size, i.bytes)) = some (some (.agg #[.int .i64 0, .string ⟨#[]⟩, .int .i64 0, .int .i64 0, .string ⟨#[]⟩]), 5, 56) := by kernel_rfl
theorem run_make_ln (n : Nat) (hn : n ≤ 1048576) (w : World) : (Instr.makeSlice 64 (.int .i64 (n : Int)) (.int .i64 (n : Int))).run Tryz.prog w = .ok (.slice (some ⟨w.heap.size, 0, none⟩) n n) (w.alloc (.cells (madeCells #[.int .i64 0, .string ⟨#[]⟩, .int .i64 0, .int .i64 0, .string ⟨#[]⟩] (n * 5)) 121)) := by
  obtain ⟨i0, hi, hz0, hz1, hz2⟩ := info_parts infoLnT
  have h := run_make (P := Tryz.prog) w 64 121 i0 (.agg #[.int .i64 0, .string ⟨#[]⟩, .int .i64 0, .int .i64 0, .string ⟨#[]⟩]) Tryz.underlying64 hi hz0 .i64 .i64 (n : Int) (n : Int) (by omega) (by omega) (by rw [hz2]; omega) (by omega)
  rw [hz1] at h
  simpa [Value.cells] using h
theorem rowIs_anyL (w : World) (c : Array Value) (t n : Nat) (hn : c.size = n) : ∃ f, (w.alloc (.cells c t)).rowIs w.heap.size t n f := by
  subst hn
  exact ⟨fun i => c[i]?.getD undef, World.rowIs_alloc w c t _ (fun i hi => by simp [hi])⟩
set_option maxHeartbeats 1000000 in
theorem toLn_any (l : Ln) (w : World) :
    Calls Tryz.prog 153 #[.agg #[.int .i64 l.no, .string l.item, .int .i64 l.qty, .int .i64 l.money, .string l.note]] w fun e w' => e = .returned (.agg #[.int .i64 l.no, .string l.item, .int .i64 l.qty, .int .i64 l.money, .string l.note]) ∧ Below w.heap.size w w' := by
  obtain ⟨no, item, qty, money, note⟩ := l
  dsimp only
  go_enter Tryz.func153, Tryz.ntmps153
  go_wp2
  exact bodyPost_ret (v := .agg #[.int .i64 no, .string item, .int .i64 qty, .int .i64 money, .string note]) (by simp [results, Tryz.results153, go_sem]) rfl ⟨rfl, (((Below.refl _ _).alloc (Nat.le_refl _) _).alloc (by simp) _).alloc (by simp; omega) _⟩
/-- A list of lines in a block of its own, not below B. -/
def OwnLn (B : Nat) (W : World) (v : Value) (ls : List Ln) : Prop := ∃ (b : Nat) (f : Nat → Value), B ≤ b ∧ v = .slice (some ⟨b, 0, none⟩) ls.length ls.length ∧ W.rowIs b 121 (ls.length * 5) f ∧ ∀ (i : Nat) (g : Ln), ls[i]? = some g → f (i * 5) = .int .i64 g.no ∧ f (i * 5 + 1) = .string g.item ∧ f (i * 5 + 2) = .int .i64 g.qty ∧ f (i * 5 + 3) = .int .i64 g.money ∧ f (i * 5 + 4) = .string g.note
theorem OwnLn.row {B : Nat} {W : World} {v : Value} {ls : List Ln} (h : OwnLn B W v ls) (hG : BdL 1048576 ls) : RowL W v ls := by
  obtain ⟨b, f, h1, h2, h3, h4⟩ := h
  have hl := hG.1
  refine ⟨⟨_, _, h2, fun _ => ⟨b, 0, rfl, fun i g hi => ?_⟩⟩, by omega, fun i g hi => ⟨Nat.le_trans (hG.2 i g hi).1 (by omega), Nat.le_trans (hG.2 i g hi).2 (by omega)⟩⟩
  have hlt := (List.getElem?_eq_some_iff.1 hi).1
  obtain ⟨e0, e1, e2, e3, e4⟩ := h4 i g hi
  have c0 := h3.cell (i := i * 5) (by omega)
  have c1 := h3.cell (i := i * 5 + 1) (by omega)
  have c2 := h3.cell (i := i * 5 + 2) (by omega)
  have c3 := h3.cell (i := i * 5 + 3) (by omega)
  have c4 := h3.cell (i := i * 5 + 4) (by omega)
  rw [e0] at c0; rw [e1] at c1; rw [e2] at c2; rw [e3] at c3; rw [e4] at c4
  rw [Nat.zero_add]
  exact ⟨c0, c1, c2, c3, c4⟩
theorem OwnLn.below {B : Nat} {W W' : World} {v : Value} {ls : List Ln} (h : OwnLn B W v ls) (hb : Below W.heap.size W W') : OwnLn B W' v ls := by
  obtain ⟨b, f, h1, h2, h3, h4⟩ := h
  exact ⟨b, f, h1, h2, h3.of_block (hb.block b h3.lt), h4⟩
theorem OwnLn.setAt {B c : Nat} {W : World} {v : Value} {ls : List Ln} (h : OwnLn B W v ls) (hc : c < B) (i : Nat) (x : Value) : OwnLn B (W.setCell ⟨c, i, none⟩ x) v ls := by
  obtain ⟨b, f, h1, h2, h3, h4⟩ := h
  exact ⟨b, f, h1, h2, h3.setOther (show b ≠ c by omega) x, h4⟩
theorem OwnS.setAt {B c : Nat} {W : World} {v : Value} {ss : List ByteArray} (h : OwnS B W v ss) (hc : c < B) (i : Nat) (x : Value) : OwnS B (W.setCell ⟨c, i, none⟩ x) v ss := by
  obtain ⟨b, h1, h2, h3⟩ := h
  exact ⟨b, h1, h2, h3.setOther (show b ≠ c by omega) x⟩
set_option maxHeartbeats 2000000 in
theorem toL_any (v : Value) (ls : List Ln) (w : World) (h : RowL w v ls) (hG : BdL 1048576 ls) :
    Calls Tryz.prog 121 #[v] w fun e w' => ∃ v', e = .returned v' ∧ OwnLn w.heap.size w' v' ls ∧ Below w.heap.size w w' := by
  have hlen := hG.1
  obtain ⟨a, cap, rfl⟩ := h.val
  have H : Hid (RowL w (.slice a ls.length cap) ls ∧ BdL 1048576 ls) := ⟨h, hG⟩
  clear h hG
  obtain ⟨M, hM, hMs⟩ : ∃ M : Array Value, madeCells #[.int .i64 0, .string ⟨#[]⟩, .int .i64 0, .int .i64 0, .string ⟨#[]⟩] (ls.length * 5) = M ∧ M.size = ls.length * 5 := ⟨_, rfl, size_madeCells _ _⟩
  have hmk := run_make_ln ls.length hlen
  rw [hM] at hmk
  obtain ⟨f0, hf0⟩ := rowIs_anyL w M 121 (ls.length * 5) hMs
  have HF0 : Hid ((w.alloc (.cells M 121)).rowIs w.heap.size 121 (ls.length * 5) f0) := hf0
  clear hM hMs hf0
  go_enter Tryz.func121, Tryz.ntmps121
  go_wp2
  go_loopw [4] (fun i wr => ∃ (k : Nat) (f : Nat → Value), i = .int .i64 (k : Int) ∧ k ≤ ls.length ∧ wr.rowIs w.heap.size 121 (ls.length * 5) f ∧ (∀ (j : Nat) (g : Ln), j < k → ls[j]? = some g → f (j * 5) = .int .i64 g.no ∧ f (j * 5 + 1) = .string g.item ∧ f (j * 5 + 2) = .int .i64 g.qty ∧ f (j * 5 + 3) = .int .i64 g.money ∧ f (j * 5 + 4) = .string g.note) ∧ Below w.heap.size w wr) (fun i _ => ls.length - (intOf i).toNat)
  case atStart => exact ⟨0, f0, rfl, by omega, HF0.out, fun j e hj => by omega, (Below.refl _ _).alloc (Nat.le_refl _) _⟩
  case round =>
    obtain ⟨k, f, rfl, hk, hR, hA, hb⟩ := hrel
    by_cases hlt : k < ls.length
    · have hlt' : (k : Int) < (ls.length : Int) := by omega
      obtain ⟨b, o, cap', g, ee, hs, ⟨q0, q1, q2, q3, q4⟩, hsz⟩ := (H.out.1.below hb).at hlt
      simp only [Value.slice.injEq, true_and] at ee
      obtain ⟨rfl, rfl⟩ := ee
      have HS : Hid (ls[k]? = some g ∧ wr.rowIs w.heap.size 121 (ls.length * 5) f ∧ (∀ (j : Nat) (g : Ln), j < k → ls[j]? = some g → f (j * 5) = .int .i64 g.no ∧ f (j * 5 + 1) = .string g.item ∧ f (j * 5 + 2) = .int .i64 g.qty ∧ f (j * 5 + 3) = .int .i64 g.money ∧ f (j * 5 + 4) = .string g.note) ∧ Below w.heap.size w wr) := ⟨hs, hR, hA, hb⟩
      clear hs hR hA hb
      go_wp2_with fail
      refine (toLn_any g _).mono ?_
      rintro ee w1 ⟨rfl, hb1⟩
      have hlt0 := HS.out.2.1.lt
      have hR1 : w1.rowIs w.heap.size 121 (ls.length * 5) f := HS.out.2.1.of_block (hb1.block _ hlt0)
      have hfz := hR1.frozen
      have k0 := hR1.cell (i := k * 5) (by omega)
      have k1 := hR1.cell (i := k * 5 + 1) (by omega)
      have k2 := hR1.cell (i := k * 5 + 2) (by omega)
      have k3 := hR1.cell (i := k * 5 + 3) (by omega)
      have k4 := hR1.cell (i := k * 5 + 4) (by omega)
      have H1 : Hid (ls[k]? = some g ∧ w1.rowIs w.heap.size 121 (ls.length * 5) f ∧ (∀ (j : Nat) (g : Ln), j < k → ls[j]? = some g → f (j * 5) = .int .i64 g.no ∧ f (j * 5 + 1) = .string g.item ∧ f (j * 5 + 2) = .int .i64 g.qty ∧ f (j * 5 + 3) = .int .i64 g.money ∧ f (j * 5 + 4) = .string g.note) ∧ Below w.heap.size w w1) := ⟨HS.out.1, hR1, HS.out.2.2.1, HS.out.2.2.2.trans (hb1.mono HS.out.2.2.2.size)⟩
      clear HS hR1 hb1
      go_wp2
      go_roundw
      case rel =>
        refine ⟨k + 1, _, by go_num, by omega, ((((H1.out.2.1.set (k * 5) (.int .i64 g.no)).set (k * 5 + 1) (.string g.item)).set (k * 5 + 2) (.int .i64 g.qty)).set (k * 5 + 3) (.int .i64 g.money)).set (k * 5 + 4) (.string g.note), fun j t hj ht => ?_, ((((H1.out.2.2.2.setCell (Nat.le_refl _) _).setCell (Nat.le_refl _) _).setCell (Nat.le_refl _) _).setCell (Nat.le_refl _) _).setCell (Nat.le_refl _) _⟩
        by_cases e1 : j = k
        · subst e1
          rw [H1.out.1] at ht
          cases ht
          refine ⟨?_, ?_, ?_, ?_, ?_⟩
          · rw [if_neg (by omega), if_neg (by omega), if_neg (by omega), if_neg (by omega), if_pos rfl]
          · rw [if_neg (by omega), if_neg (by omega), if_neg (by omega), if_pos rfl]
          · rw [if_neg (by omega), if_neg (by omega), if_pos rfl]
          · rw [if_neg (by omega), if_pos rfl]
          · rw [if_pos rfl]
        · obtain ⟨r0, r1, r2, r3, r4⟩ := H1.out.2.2.1 j t (by omega) ht
          refine ⟨?_, ?_, ?_, ?_, ?_⟩
          all_goals rw [if_neg (by omega), if_neg (by omega), if_neg (by omega), if_neg (by omega), if_neg (by omega)]
          all_goals assumption
      case measure => simp [intOf]; omega
    · obtain rfl : k = ls.length := by omega
      have HS : Hid (wr.rowIs w.heap.size 121 (ls.length * 5) f ∧ (∀ (j : Nat) (g : Ln), j < ls.length → ls[j]? = some g → f (j * 5) = .int .i64 g.no ∧ f (j * 5 + 1) = .string g.item ∧ f (j * 5 + 2) = .int .i64 g.qty ∧ f (j * 5 + 3) = .int .i64 g.money ∧ f (j * 5 + 4) = .string g.note) ∧ Below w.heap.size w wr) := ⟨hR, hA, hb⟩
      clear hR hA hb
      go_wp2
      go_ret
      exact ⟨_, rfl, ⟨w.heap.size, f, Nat.le_refl _, rfl, HS.out.1, fun i e hi => HS.out.2.1 i e (List.getElem?_eq_some_iff.1 hi).1 hi⟩, HS.out.2.2⟩
/-- The lists of a paper in blocks of their own, not below B. -/
def OwnP (B : Nat) (W : World) (vn vl : Value) (p : Pap) : Prop := OwnS B W vn p.notes ∧ OwnLn B W vl p.lines
theorem OwnP.row {B : Nat} {W : World} {vn vl : Value} {p : Pap} (h : OwnP B W vn vl p) (hP : BdP 1048576 p) : PapR W vn vl p := by
  obtain ⟨u3, u4, u1, u2⟩ := hP
  have hl := u1.1
  exact ⟨h.1.row (by omega) (fun i s hi => Nat.le_trans (u1.2 i s hi) (by omega)), h.2.row u2, Nat.le_trans u3 (by omega), Nat.le_trans u4 (by omega)⟩
theorem OwnP.below {B : Nat} {W W' : World} {vn vl : Value} {p : Pap} (h : OwnP B W vn vl p) (hb : Below W.heap.size W W') : OwnP B W' vn vl p := ⟨h.1.below hb, h.2.below hb⟩
theorem OwnP.setAt {B c : Nat} {W : World} {vn vl : Value} {p : Pap} (h : OwnP B W vn vl p) (hc : c < B) (i : Nat) (x : Value) : OwnP B (W.setCell ⟨c, i, none⟩ x) vn vl p := ⟨h.1.setAt hc i x, h.2.setAt hc i x⟩
theorem OwnP.mono {B C : Nat} {W : World} {vn vl : Value} {p : Pap} (h : OwnP B W vn vl p) (hC : C ≤ B) : OwnP C W vn vl p := by
  obtain ⟨h1, b, f, k1, k2⟩ := h
  exact ⟨h1.mono hC, b, f, by omega, k2⟩
set_option maxHeartbeats 4000000 in
theorem toP_own (p : Pap) (vn vl : Value) (w : World) (h : PapR w vn vl p) (hP : BdP 1048576 p) :
    Calls Tryz.prog 81 #[.agg #[.int .i64 p.kind, .string p.ref, .string p.other, .int .i64 p.day, vn, vl]] w fun e w' => ∃ vn' vl', e = .returned (.agg #[.int .i64 p.kind, .string p.ref, .string p.other, .int .i64 p.day, vn', vl']) ∧ OwnP w.heap.size w' vn' vl' p ∧ Below w.heap.size w w' := by
  obtain ⟨kind, ref, other, day, notes, lines⟩ := p
  obtain ⟨a, cap, rfl⟩ := h.ns.val
  obtain ⟨a', cap', rfl⟩ := h.ls.val
  dsimp only at h ⊢
  obtain ⟨hp1, hp2, hp3, hp4⟩ := hP
  dsimp only at hp1 hp2 hp3 hp4
  have H : Hid (RowS w (.slice a notes.length cap) notes ∧ RowL w (.slice a' lines.length cap') lines ∧ BdS 1048576 notes ∧ BdL 1048576 lines ∧ ref.size ≤ 1048576 ∧ other.size ≤ 1048576) := ⟨h.ns, h.ls, hp3, hp4, hp1, hp2⟩
  clear h hp1 hp2 hp3 hp4
  go_enter Tryz.func81, Tryz.ntmps81
  go_wp2_with fail
  have hb0 : Below w.heap.size w (((w.alloc (.cells #[.int .i64 kind, .string ref, .string other, .int .i64 day, .slice a notes.length cap, .slice a' lines.length cap'] 125)).alloc (.cells #[.int .i64 0, .string ⟨#[]⟩, .string ⟨#[]⟩, .int .i64 0, .slice none 0 0, .slice none 0 0] 66)).alloc (.cells #[.int .i64 kind, .string ref, .string other, .int .i64 day, .slice none 0 0, .slice none 0 0] 66)) := (((Below.refl _ _).alloc (Nat.le_refl _) _).alloc (by simp) _).alloc (by simp; omega) _
  have h3 := three w (.cells #[.int .i64 kind, .string ref, .string other, .int .i64 day, .slice a notes.length cap, .slice a' lines.length cap'] 125) (.cells #[.int .i64 0, .string ⟨#[]⟩, .string ⟨#[]⟩, .int .i64 0, .slice none 0 0, .slice none 0 0] 66) (.cells #[.int .i64 kind, .string ref, .string other, .int .i64 day, .slice none 0 0, .slice none 0 0] 66)
  have hs0 : ((((w.alloc (.cells #[.int .i64 kind, .string ref, .string other, .int .i64 day, .slice a notes.length cap, .slice a' lines.length cap'] 125)).alloc (.cells #[.int .i64 0, .string ⟨#[]⟩, .string ⟨#[]⟩, .int .i64 0, .slice none 0 0, .slice none 0 0] 66)).alloc (.cells #[.int .i64 kind, .string ref, .string other, .int .i64 day, .slice none 0 0, .slice none 0 0] 66))).heap.size = w.heap.size + 3 := by simp
  generalize (((w.alloc (.cells #[.int .i64 kind, .string ref, .string other, .int .i64 day, .slice a notes.length cap, .slice a' lines.length cap'] 125)).alloc (.cells #[.int .i64 0, .string ⟨#[]⟩, .string ⟨#[]⟩, .int .i64 0, .slice none 0 0, .slice none 0 0] 66)).alloc (.cells #[.int .i64 kind, .string ref, .string other, .int .i64 day, .slice none 0 0, .slice none 0 0] 66)) = W0 at hb0 h3 hs0 ⊢
  refine (toS_any _ notes W0 (H.out.1.below hb0) H.out.2.2.1.1).mono ?_
  rintro e w1 ⟨v1, rfl, hO, hb1⟩
  obtain ⟨A1, L1, C1, hv1⟩ : ∃ A1 L1 C1, v1 = .slice A1 L1 C1 := by
    obtain ⟨b', _, h2, _⟩ := hO
    exact ⟨_, _, _, h2⟩
  subst hv1
  have f0 := (hb1.block w.heap.size (by omega)).trans h3.1
  have f1 := (hb1.block (w.heap.size + 1) (by omega)).trans h3.2.1
  have f2 := (hb1.block (w.heap.size + 1 + 1) (by omega)).trans h3.2.2
  have a5 : w1.cell? ⟨w.heap.size, 5, none⟩ = some (.slice a' lines.length cap') := by simp [World.cell?, f0]
  have c0 : w1.cell? ⟨w.heap.size + 1, 0, none⟩ = some (.int .i64 0) := by simp [World.cell?, f1]
  have c1 : w1.cell? ⟨w.heap.size + 1, 1, none⟩ = some (.string ⟨#[]⟩) := by simp [World.cell?, f1]
  have c2 : w1.cell? ⟨w.heap.size + 1, 2, none⟩ = some (.string ⟨#[]⟩) := by simp [World.cell?, f1]
  have c3 : w1.cell? ⟨w.heap.size + 1, 3, none⟩ = some (.int .i64 0) := by simp [World.cell?, f1]
  have c4 : w1.cell? ⟨w.heap.size + 1, 4, none⟩ = some (.slice none 0 0) := by simp [World.cell?, f1]
  have c5 : w1.cell? ⟨w.heap.size + 1, 5, none⟩ = some (.slice none 0 0) := by simp [World.cell?, f1]
  have d0 : w1.cell? ⟨w.heap.size + 1 + 1, 0, none⟩ = some (.int .i64 kind) := by simp [World.cell?, f2]
  have d1 : w1.cell? ⟨w.heap.size + 1 + 1, 1, none⟩ = some (.string ref) := by simp [World.cell?, f2]
  have d2 : w1.cell? ⟨w.heap.size + 1 + 1, 2, none⟩ = some (.string other) := by simp [World.cell?, f2]
  have d3 : w1.cell? ⟨w.heap.size + 1 + 1, 3, none⟩ = some (.int .i64 day) := by simp [World.cell?, f2]
  have d4 : w1.cell? ⟨w.heap.size + 1 + 1, 4, none⟩ = some (.slice none 0 0) := by simp [World.cell?, f2]
  have d5 : w1.cell? ⟨w.heap.size + 1 + 1, 5, none⟩ = some (.slice none 0 0) := by simp [World.cell?, f2]
  have z1 : ∀ o, w1.frozen? ⟨w.heap.size + 1, o, none⟩ = false := fun o => by simp [World.frozen?, f1]
  have z2 : ∀ o, w1.frozen? ⟨w.heap.size + 1 + 1, o, none⟩ = false := fun o => by simp [World.frozen?, f2]
  have HB : Hid (Below w.heap.size w w1 ∧ OwnS (w.heap.size + 3) w1 (.slice A1 L1 C1) notes ∧ w.heap.size + 3 ≤ w1.heap.size) := ⟨hb0.trans (hb1.mono (by omega)), by rw [← hs0]; exact hO, by have := hb1.size; omega⟩
  clear f0 f1 f2 hb0 hb1 hO h3
  go_wp2_with fail
  have cc0 : (w1.setCell ⟨w.heap.size + 1 + 1, 4, none⟩ (.slice A1 L1 C1)).cell? ⟨w.heap.size + 1, 0, none⟩ = some (.int .i64 0) := by simp [go_sem, c0]
  have dd0 : (w1.setCell ⟨w.heap.size + 1 + 1, 4, none⟩ (.slice A1 L1 C1)).cell? ⟨w.heap.size + 1 + 1, 0, none⟩ = some (.int .i64 kind) := by simp [go_sem, d0]
  have cc1 : (w1.setCell ⟨w.heap.size + 1 + 1, 4, none⟩ (.slice A1 L1 C1)).cell? ⟨w.heap.size + 1, 1, none⟩ = some (.string ⟨#[]⟩) := by simp [go_sem, c1]
  have dd1 : (w1.setCell ⟨w.heap.size + 1 + 1, 4, none⟩ (.slice A1 L1 C1)).cell? ⟨w.heap.size + 1 + 1, 1, none⟩ = some (.string ref) := by simp [go_sem, d1]
  have cc2 : (w1.setCell ⟨w.heap.size + 1 + 1, 4, none⟩ (.slice A1 L1 C1)).cell? ⟨w.heap.size + 1, 2, none⟩ = some (.string ⟨#[]⟩) := by simp [go_sem, c2]
  have dd2 : (w1.setCell ⟨w.heap.size + 1 + 1, 4, none⟩ (.slice A1 L1 C1)).cell? ⟨w.heap.size + 1 + 1, 2, none⟩ = some (.string other) := by simp [go_sem, d2]
  have cc3 : (w1.setCell ⟨w.heap.size + 1 + 1, 4, none⟩ (.slice A1 L1 C1)).cell? ⟨w.heap.size + 1, 3, none⟩ = some (.int .i64 0) := by simp [go_sem, c3]
  have dd3 : (w1.setCell ⟨w.heap.size + 1 + 1, 4, none⟩ (.slice A1 L1 C1)).cell? ⟨w.heap.size + 1 + 1, 3, none⟩ = some (.int .i64 day) := by simp [go_sem, d3]
  have cc4 : (w1.setCell ⟨w.heap.size + 1 + 1, 4, none⟩ (.slice A1 L1 C1)).cell? ⟨w.heap.size + 1, 4, none⟩ = some (.slice none 0 0) := by simp [go_sem, c4]
  have dd4 : (w1.setCell ⟨w.heap.size + 1 + 1, 4, none⟩ (.slice A1 L1 C1)).cell? ⟨w.heap.size + 1 + 1, 4, none⟩ = some (.slice A1 L1 C1) := by simp [go_sem, d4]
  have cc5 : (w1.setCell ⟨w.heap.size + 1 + 1, 4, none⟩ (.slice A1 L1 C1)).cell? ⟨w.heap.size + 1, 5, none⟩ = some (.slice none 0 0) := by simp [go_sem, c5]
  have dd5 : (w1.setCell ⟨w.heap.size + 1 + 1, 4, none⟩ (.slice A1 L1 C1)).cell? ⟨w.heap.size + 1 + 1, 5, none⟩ = some (.slice none 0 0) := by simp [go_sem, d5]
  have Z1 : ∀ o, (w1.setCell ⟨w.heap.size + 1 + 1, 4, none⟩ (.slice A1 L1 C1)).frozen? ⟨w.heap.size + 1, o, none⟩ = false := fun o => by simp [go_sem, z1]
  have Z2 : ∀ o, (w1.setCell ⟨w.heap.size + 1 + 1, 4, none⟩ (.slice A1 L1 C1)).frozen? ⟨w.heap.size + 1 + 1, o, none⟩ = false := fun o => by simp [go_sem, z2]
  have HC : Hid (Below w.heap.size w (w1.setCell ⟨w.heap.size + 1 + 1, 4, none⟩ (.slice A1 L1 C1)) ∧ OwnS (w.heap.size + 3) (w1.setCell ⟨w.heap.size + 1 + 1, 4, none⟩ (.slice A1 L1 C1)) (.slice A1 L1 C1) notes ∧ w.heap.size + 3 ≤ (w1.setCell ⟨w.heap.size + 1 + 1, 4, none⟩ (.slice A1 L1 C1)).heap.size) := ⟨HB.out.1.setCell (show w.heap.size ≤ w.heap.size + 1 + 1 by omega) _, HB.out.2.1.setAt (by omega) _ _, by have := HB.out.2.2; simpa using this⟩
  generalize (w1.setCell ⟨w.heap.size + 1 + 1, 4, none⟩ (.slice A1 L1 C1)) = W2 at *
  clear c0 d0 c1 d1 c2 d2 c3 d3 c4 d4 c5 d5 z1 z2 a5 HB
  have hlt2 := HC.out.2.2
  refine (toL_any _ lines W2 (H.out.2.1.below HC.out.1) H.out.2.2.2.1).mono ?_
  rintro e w2 ⟨v2, rfl, hO2, hb2⟩
  obtain ⟨A2, L2, C2, hv2⟩ : ∃ A2 L2 C2, v2 = .slice A2 L2 C2 := by
    obtain ⟨b', _, _, h2, _⟩ := hO2
    exact ⟨_, _, _, h2⟩
  subst hv2
  have c0 := (hb2.cell (p := ⟨w.heap.size + 1, 0, none⟩) (show w.heap.size + 1 < W2.heap.size by omega)).trans cc0
  have d0 := (hb2.cell (p := ⟨w.heap.size + 1 + 1, 0, none⟩) (show w.heap.size + 1 + 1 < W2.heap.size by omega)).trans dd0
  have c1 := (hb2.cell (p := ⟨w.heap.size + 1, 1, none⟩) (show w.heap.size + 1 < W2.heap.size by omega)).trans cc1
  have d1 := (hb2.cell (p := ⟨w.heap.size + 1 + 1, 1, none⟩) (show w.heap.size + 1 + 1 < W2.heap.size by omega)).trans dd1
  have c2 := (hb2.cell (p := ⟨w.heap.size + 1, 2, none⟩) (show w.heap.size + 1 < W2.heap.size by omega)).trans cc2
  have d2 := (hb2.cell (p := ⟨w.heap.size + 1 + 1, 2, none⟩) (show w.heap.size + 1 + 1 < W2.heap.size by omega)).trans dd2
  have c3 := (hb2.cell (p := ⟨w.heap.size + 1, 3, none⟩) (show w.heap.size + 1 < W2.heap.size by omega)).trans cc3
  have d3 := (hb2.cell (p := ⟨w.heap.size + 1 + 1, 3, none⟩) (show w.heap.size + 1 + 1 < W2.heap.size by omega)).trans dd3
  have c4 := (hb2.cell (p := ⟨w.heap.size + 1, 4, none⟩) (show w.heap.size + 1 < W2.heap.size by omega)).trans cc4
  have d4 := (hb2.cell (p := ⟨w.heap.size + 1 + 1, 4, none⟩) (show w.heap.size + 1 + 1 < W2.heap.size by omega)).trans dd4
  have c5 := (hb2.cell (p := ⟨w.heap.size + 1, 5, none⟩) (show w.heap.size + 1 < W2.heap.size by omega)).trans cc5
  have d5 := (hb2.cell (p := ⟨w.heap.size + 1 + 1, 5, none⟩) (show w.heap.size + 1 + 1 < W2.heap.size by omega)).trans dd5
  have z1 : ∀ o, w2.frozen? ⟨w.heap.size + 1, o, none⟩ = false := fun o => (hb2.frozen (p := ⟨w.heap.size + 1, o, none⟩) (show w.heap.size + 1 < W2.heap.size by omega)).trans (Z1 o)
  have z2 : ∀ o, w2.frozen? ⟨w.heap.size + 1 + 1, o, none⟩ = false := fun o => (hb2.frozen (p := ⟨w.heap.size + 1 + 1, o, none⟩) (show w.heap.size + 1 + 1 < W2.heap.size by omega)).trans (Z2 o)
  have HD : Hid (Below w.heap.size w w2 ∧ OwnS (w.heap.size + 3) w2 (.slice A1 L1 C1) notes ∧ OwnLn (w.heap.size + 3) w2 (.slice A2 L2 C2) lines) := ⟨HC.out.1.trans (hb2.mono HC.out.1.size), HC.out.2.1.below hb2, by obtain ⟨b, f, g1, g2⟩ := hO2; exact ⟨b, f, by omega, g2⟩⟩
  clear cc0 dd0 cc1 dd1 cc2 dd2 cc3 dd3 cc4 dd4 cc5 dd5 Z1 Z2 hb2 hO2 HC
  go_wp2
  have st : ∀ (W : World) (c i : Nat) (x : Value), w.heap.size ≤ c → c < w.heap.size + 3 → (Below w.heap.size w W ∧ OwnS (w.heap.size + 3) W (.slice A1 L1 C1) notes ∧ OwnLn (w.heap.size + 3) W (.slice A2 L2 C2) lines) → (Below w.heap.size w (W.setCell ⟨c, i, none⟩ x) ∧ OwnS (w.heap.size + 3) (W.setCell ⟨c, i, none⟩ x) (.slice A1 L1 C1) notes ∧ OwnLn (w.heap.size + 3) (W.setCell ⟨c, i, none⟩ x) (.slice A2 L2 C2) lines) := fun W c i x g1 g2 ⟨k1, k2, k3⟩ => ⟨k1.setCell g1 x, k2.setAt g2 i x, k3.setAt g2 i x⟩
  have hF := st _ (w.heap.size + 1) 5 (.slice A2 L2 C2) (by omega) (by omega) (st _ (w.heap.size + 1) 4 (.slice A1 L1 C1) (by omega) (by omega) (st _ (w.heap.size + 1) 3 (.int .i64 day) (by omega) (by omega) (st _ (w.heap.size + 1) 2 (.string other) (by omega) (by omega) (st _ (w.heap.size + 1) 1 (.string ref) (by omega) (by omega) (st _ (w.heap.size + 1) 0 (.int .i64 kind) (by omega) (by omega) (st _ (w.heap.size + 1 + 1) 5 (.slice A2 L2 C2) (by omega) (by omega) HD.out))))))
  exact bodyPost_ret (v := .agg #[.int .i64 kind, .string ref, .string other, .int .i64 day, .slice A1 L1 C1, .slice A2 L2 C2]) (by simp [results, Tryz.results81, go_sem, c0, c1, c2, c3, c4, c5]) rfl ⟨_, _, rfl, ⟨hF.2.1.mono (by omega), by obtain ⟨b, f, g1, g2⟩ := hF.2.2; exact ⟨b, f, by omega, g2⟩⟩, hF.1⟩
end Go.Proofs.YtkaolpnbddjdpaaGreatDoor
namespace Go.Proofs.YtkaolpnbddjdpaaGreatDoor
open Go.ChangeShapes Go.WideShapes Go.ChangeAt Go.RowKit
theorem infoPp : (Tryz.prog.info? 66).map (fun i => (i.zero, i.size, i.bytes)) = some (some (.agg #[.int .i64 0, .string ⟨#[]⟩, .string ⟨#[]⟩, .int .i64 0, .slice none 0 0, .slice none 0 0]), 6, 96) := by kernel_rfl
theorem run_make_pp (n : Nat) (hn : n ≤ 1048576) (w : World) : (Instr.makeSlice 25 (.int .i64 (n : Int)) (.int .i64 (n : Int))).run Tryz.prog w = .ok (.slice (some ⟨w.heap.size, 0, none⟩) n n) (w.alloc (.cells (madeCells #[.int .i64 0, .string ⟨#[]⟩, .string ⟨#[]⟩, .int .i64 0, .slice none 0 0, .slice none 0 0] (n * 6)) 66)) := by
  obtain ⟨i0, hi, hz0, hz1, hz2⟩ := info_parts infoPp
  have h := run_make (P := Tryz.prog) w 25 66 i0 (.agg #[.int .i64 0, .string ⟨#[]⟩, .string ⟨#[]⟩, .int .i64 0, .slice none 0 0, .slice none 0 0]) Tryz.underlying25 hi hz0 .i64 .i64 (n : Int) (n : Int) (by omega) (by omega) (by rw [hz2]; omega) (by omega)
  rw [hz1] at h
  simpa [Value.cells] using h
/-- What a row holds of a paper at place i. -/
def PapF (B : Nat) (W : World) (f : Nat → Value) (i : Nat) (g : Pap) : Prop :=
  f (i * 6) = .int .i64 g.kind ∧ f (i * 6 + 1) = .string g.ref ∧ f (i * 6 + 2) = .string g.other ∧ f (i * 6 + 3) = .int .i64 g.day ∧ OwnP B W (f (i * 6 + 4)) (f (i * 6 + 5)) g
/-- A list of papers in blocks of its own, not below B. -/
def OwnPs (B : Nat) (W : World) (v : Value) (ps : List Pap) : Prop := ∃ (b : Nat) (f : Nat → Value), B ≤ b ∧ v = .slice (some ⟨b, 0, none⟩) ps.length ps.length ∧ W.rowIs b 66 (ps.length * 6) f ∧ ∀ (i : Nat) (g : Pap), ps[i]? = some g → PapF (b + 1) W f i g
theorem OwnPs.row {B : Nat} {W : World} {v : Value} {ps : List Pap} (h : OwnPs B W v ps) (hG : BdPs 1048576 ps) : RowPs W v ps := by
  obtain ⟨b, f, h1, h2, h3, h4⟩ := h
  have hl := hG.1
  refine ⟨⟨_, _, h2, fun _ => ⟨b, 0, rfl, fun i g hi => ?_⟩⟩, by omega⟩
  have hlt := (List.getElem?_eq_some_iff.1 hi).1
  obtain ⟨e0, e1, e2, e3, e4⟩ := h4 i g hi
  have c0 := h3.cell (i := i * 6) (by omega)
  have c1 := h3.cell (i := i * 6 + 1) (by omega)
  have c2 := h3.cell (i := i * 6 + 2) (by omega)
  have c3 := h3.cell (i := i * 6 + 3) (by omega)
  have c4 := h3.cell (i := i * 6 + 4) (by omega)
  have c5 := h3.cell (i := i * 6 + 5) (by omega)
  rw [e0] at c0; rw [e1] at c1; rw [e2] at c2; rw [e3] at c3
  rw [Nat.zero_add]
  exact ⟨_, _, ⟨c0, c1, c2, c3, c4, c5⟩, e4.row (hG.2 i g hi)⟩
theorem OwnPs.below {B : Nat} {W W' : World} {v : Value} {ps : List Pap} (h : OwnPs B W v ps) (hb : Below W.heap.size W W') : OwnPs B W' v ps := by
  obtain ⟨b, f, h1, h2, h3, h4⟩ := h
  refine ⟨b, f, h1, h2, h3.of_block (hb.block b h3.lt), fun i g hi => ?_⟩
  obtain ⟨e0, e1, e2, e3, e4⟩ := h4 i g hi
  exact ⟨e0, e1, e2, e3, e4.below hb⟩
theorem OwnPs.setAt {B c : Nat} {W : World} {v : Value} {ps : List Pap} (h : OwnPs B W v ps) (hc : c < B) (i : Nat) (x : Value) : OwnPs B (W.setCell ⟨c, i, none⟩ x) v ps := by
  obtain ⟨b, f, h1, h2, h3, h4⟩ := h
  refine ⟨b, f, h1, h2, h3.setOther (show b ≠ c by omega) x, fun j g hj => ?_⟩
  obtain ⟨e0, e1, e2, e3, e4⟩ := h4 j g hj
  exact ⟨e0, e1, e2, e3, e4.setAt (by omega) i x⟩
theorem OwnPs.mono {B C : Nat} {W : World} {v : Value} {ps : List Pap} (h : OwnPs B W v ps) (hC : C ≤ B) : OwnPs C W v ps := by
  obtain ⟨b, f, h1, h2⟩ := h
  exact ⟨b, f, by omega, h2⟩
/-- Six stores into a row's place k. -/
theorem PapF.set6 {B : Nat} {W : World} {f : Nat → Value} {n : Nat} {k : Nat} {g : Pap} {vn vl : Value} {t : Nat} (hR : W.rowIs B t n f) (hO : OwnP (B + 1) W vn vl g) :
    ∃ f' : Nat → Value, ((((((W.setCell ⟨B, k * 6, none⟩ (.int .i64 g.kind)).setCell ⟨B, k * 6 + 1, none⟩ (.string g.ref)).setCell ⟨B, k * 6 + 2, none⟩ (.string g.other)).setCell ⟨B, k * 6 + 3, none⟩ (.int .i64 g.day)).setCell ⟨B, k * 6 + 4, none⟩ vn).setCell ⟨B, k * 6 + 5, none⟩ vl).rowIs B t n f' ∧
      PapF (B + 1) ((((((W.setCell ⟨B, k * 6, none⟩ (.int .i64 g.kind)).setCell ⟨B, k * 6 + 1, none⟩ (.string g.ref)).setCell ⟨B, k * 6 + 2, none⟩ (.string g.other)).setCell ⟨B, k * 6 + 3, none⟩ (.int .i64 g.day)).setCell ⟨B, k * 6 + 4, none⟩ vn).setCell ⟨B, k * 6 + 5, none⟩ vl) f' k g ∧
      ∀ (j : Nat) (q : Pap), j ≠ k → PapF (B + 1) W f j q → PapF (B + 1) ((((((W.setCell ⟨B, k * 6, none⟩ (.int .i64 g.kind)).setCell ⟨B, k * 6 + 1, none⟩ (.string g.ref)).setCell ⟨B, k * 6 + 2, none⟩ (.string g.other)).setCell ⟨B, k * 6 + 3, none⟩ (.int .i64 g.day)).setCell ⟨B, k * 6 + 4, none⟩ vn).setCell ⟨B, k * 6 + 5, none⟩ vl) f' j q := by
  have own : ∀ {a b : Value} {q : Pap}, OwnP (B + 1) W a b q → OwnP (B + 1) ((((((W.setCell ⟨B, k * 6, none⟩ (.int .i64 g.kind)).setCell ⟨B, k * 6 + 1, none⟩ (.string g.ref)).setCell ⟨B, k * 6 + 2, none⟩ (.string g.other)).setCell ⟨B, k * 6 + 3, none⟩ (.int .i64 g.day)).setCell ⟨B, k * 6 + 4, none⟩ vn).setCell ⟨B, k * 6 + 5, none⟩ vl) a b q := fun h => (((((h.setAt (Nat.lt_succ_self B) _ _).setAt (Nat.lt_succ_self B) _ _).setAt (Nat.lt_succ_self B) _ _).setAt (Nat.lt_succ_self B) _ _).setAt (Nat.lt_succ_self B) _ _).setAt (Nat.lt_succ_self B) _ _
  refine ⟨_, (((((hR.set (k * 6) (.int .i64 g.kind)).set (k * 6 + 1) (.string g.ref)).set (k * 6 + 2) (.string g.other)).set (k * 6 + 3) (.int .i64 g.day)).set (k * 6 + 4) vn).set (k * 6 + 5) vl, ?_, ?_⟩
  · refine ⟨?_, ?_, ?_, ?_, ?_⟩ <;> dsimp only
    · rw [if_neg (by omega), if_neg (by omega), if_neg (by omega), if_neg (by omega), if_neg (by omega), if_pos rfl]
    · rw [if_neg (by omega), if_neg (by omega), if_neg (by omega), if_neg (by omega), if_pos rfl]
    · rw [if_neg (by omega), if_neg (by omega), if_neg (by omega), if_pos rfl]
    · rw [if_neg (by omega), if_neg (by omega), if_pos rfl]
    · rw [if_neg (show ¬ k * 6 + 4 = k * 6 + 5 by omega), if_pos rfl, if_pos rfl]
      exact own hO
  · intro j q hj hq
    obtain ⟨e0, e1, e2, e3, e4⟩ := hq
    refine ⟨?_, ?_, ?_, ?_, ?_⟩ <;> dsimp only
    · rw [if_neg (by omega), if_neg (by omega), if_neg (by omega), if_neg (by omega), if_neg (by omega), if_neg (by omega)]; exact e0
    · rw [if_neg (by omega), if_neg (by omega), if_neg (by omega), if_neg (by omega), if_neg (by omega), if_neg (by omega)]; exact e1
    · rw [if_neg (by omega), if_neg (by omega), if_neg (by omega), if_neg (by omega), if_neg (by omega), if_neg (by omega)]; exact e2
    · rw [if_neg (by omega), if_neg (by omega), if_neg (by omega), if_neg (by omega), if_neg (by omega), if_neg (by omega)]; exact e3
    · rw [if_neg (show ¬ j * 6 + 4 = k * 6 + 5 by omega), if_neg (show ¬ j * 6 + 4 = k * 6 + 4 by omega), if_neg (show ¬ j * 6 + 4 = k * 6 + 3 by omega), if_neg (show ¬ j * 6 + 4 = k * 6 + 2 by omega), if_neg (show ¬ j * 6 + 4 = k * 6 + 1 by omega), if_neg (show ¬ j * 6 + 4 = k * 6 by omega), if_neg (show ¬ j * 6 + 5 = k * 6 + 5 by omega), if_neg (show ¬ j * 6 + 5 = k * 6 + 4 by omega), if_neg (show ¬ j * 6 + 5 = k * 6 + 3 by omega), if_neg (show ¬ j * 6 + 5 = k * 6 + 2 by omega), if_neg (show ¬ j * 6 + 5 = k * 6 + 1 by omega), if_neg (show ¬ j * 6 + 5 = k * 6 by omega)]
      exact own e4
set_option maxHeartbeats 2000000 in
theorem toPs_any (v : Value) (ps : List Pap) (w : World) (h : RowPs w v ps) (hG : BdPs 1048576 ps) :
    Calls Tryz.prog 43 #[v] w fun e w' => ∃ v', e = .returned v' ∧ OwnPs w.heap.size w' v' ps ∧ Below w.heap.size w w' := by
  have hlen := hG.1
  obtain ⟨a, cap, rfl⟩ := h.val
  have H : Hid (RowPs w (.slice a ps.length cap) ps ∧ BdPs 1048576 ps) := ⟨h, hG⟩
  clear h hG
  obtain ⟨M, hM, hMs⟩ : ∃ M : Array Value, madeCells #[.int .i64 0, .string ⟨#[]⟩, .string ⟨#[]⟩, .int .i64 0, .slice none 0 0, .slice none 0 0] (ps.length * 6) = M ∧ M.size = ps.length * 6 := ⟨_, rfl, size_madeCells _ _⟩
  have hmk := run_make_pp ps.length hlen
  rw [hM] at hmk
  obtain ⟨f0, hf0⟩ := rowIs_anyL w M 66 (ps.length * 6) hMs
  have HF0 : Hid ((w.alloc (.cells M 66)).rowIs w.heap.size 66 (ps.length * 6) f0) := hf0
  clear hM hMs hf0
  go_enter Tryz.func43, Tryz.ntmps43
  go_wp2
  go_loopw [4] (fun i wr => ∃ (k : Nat) (f : Nat → Value), i = .int .i64 (k : Int) ∧ k ≤ ps.length ∧ wr.rowIs w.heap.size 66 (ps.length * 6) f ∧ (∀ (j : Nat) (g : Pap), j < k → ps[j]? = some g → PapF (w.heap.size + 1) wr f j g) ∧ Below w.heap.size w wr) (fun i _ => ps.length - (intOf i).toNat)
  case atStart => exact ⟨0, f0, rfl, by omega, HF0.out, fun j e hj => by omega, (Below.refl _ _).alloc (Nat.le_refl _) _⟩
  case round =>
    obtain ⟨k, f, rfl, hk, hR, hA, hb⟩ := hrel
    by_cases hlt : k < ps.length
    · have hlt' : (k : Int) < (ps.length : Int) := by omega
      obtain ⟨b, o, cap', g, vn, vl, ee, hs, ⟨q0, q1, q2, q3, q4, q5⟩, hS⟩ := (H.out.1.below hb).at hlt
      simp only [Value.slice.injEq, true_and] at ee
      obtain ⟨rfl, rfl⟩ := ee
      obtain ⟨n0, c0, rfl⟩ := hS.ns.val
      obtain ⟨n1, c1, rfl⟩ := hS.ls.val
      have HS : Hid (ps[k]? = some g ∧ PapR wr (.slice n0 g.notes.length c0) (.slice n1 g.lines.length c1) g ∧ wr.rowIs w.heap.size 66 (ps.length * 6) f ∧ (∀ (j : Nat) (g : Pap), j < k → ps[j]? = some g → PapF (w.heap.size + 1) wr f j g) ∧ Below w.heap.size w wr) := ⟨hs, hS, hR, hA, hb⟩
      clear hs hS hR hA hb
      go_wp2_with fail
      refine (toP_own g _ _ _ HS.out.2.1 (H.out.2.2 k g HS.out.1)).mono ?_
      rintro ee w1 ⟨vn', vl', rfl, hO, hb1⟩
      have hlt0 := HS.out.2.2.1.lt
      obtain ⟨A1, L1, C1, hv1⟩ : ∃ A' L' C', vn' = .slice A' L' C' := by
        obtain ⟨⟨b', _, h2, _⟩, _⟩ := hO
        exact ⟨_, _, _, h2⟩
      obtain ⟨A2, L2, C2, hv2⟩ : ∃ A' L' C', vl' = .slice A' L' C' := by
        obtain ⟨_, b', _, _, h2, _⟩ := hO
        exact ⟨_, _, _, h2⟩
      subst hv1 hv2
      have hR1 : w1.rowIs w.heap.size 66 (ps.length * 6) f := HS.out.2.2.1.of_block (hb1.block _ hlt0)
      have hfz := hR1.frozen
      have k0 := hR1.cell (i := k * 6) (by omega)
      have k1 := hR1.cell (i := k * 6 + 1) (by omega)
      have k2 := hR1.cell (i := k * 6 + 2) (by omega)
      have k3 := hR1.cell (i := k * 6 + 3) (by omega)
      have k4 := hR1.cell (i := k * 6 + 4) (by omega)
      have k5 := hR1.cell (i := k * 6 + 5) (by omega)
      have hA1 : ∀ (j : Nat) (g : Pap), j < k → ps[j]? = some g → PapF (w.heap.size + 1) w1 f j g := fun j e hj he => by
        obtain ⟨e0, e1, e2, e3, e4⟩ := HS.out.2.2.2.1 j e hj he
        exact ⟨e0, e1, e2, e3, e4.below hb1⟩
      have H1 : Hid (ps[k]? = some g ∧ w1.rowIs w.heap.size 66 (ps.length * 6) f ∧ (∀ (j : Nat) (g : Pap), j < k → ps[j]? = some g → PapF (w.heap.size + 1) w1 f j g) ∧ Below w.heap.size w w1 ∧ OwnP (w.heap.size + 1) w1 (.slice A1 L1 C1) (.slice A2 L2 C2) g) := ⟨HS.out.1, hR1, hA1, HS.out.2.2.2.2.trans (hb1.mono HS.out.2.2.2.2.size), hO.mono hlt0⟩
      clear HS hR1 hA1 hb1 hO
      go_wp2
      go_roundw
      case rel =>
        obtain ⟨f', r1, r2, r3⟩ := PapF.set6 (k := k) H1.out.2.1 H1.out.2.2.2.2
        refine ⟨k + 1, f', by go_num, by omega, r1, fun j t hj ht => ?_, (((((H1.out.2.2.2.1.setCell (Nat.le_refl _) _).setCell (Nat.le_refl _) _).setCell (Nat.le_refl _) _).setCell (Nat.le_refl _) _).setCell (Nat.le_refl _) _).setCell (Nat.le_refl _) _⟩
        by_cases e1 : j = k
        · subst e1
          rw [H1.out.1] at ht
          cases ht
          exact r2
        · exact r3 j t e1 (H1.out.2.2.1 j t (by omega) ht)
      case measure => simp [intOf]; omega
    · obtain rfl : k = ps.length := by omega
      have HS : Hid (wr.rowIs w.heap.size 66 (ps.length * 6) f ∧ (∀ (j : Nat) (g : Pap), j < ps.length → ps[j]? = some g → PapF (w.heap.size + 1) wr f j g) ∧ Below w.heap.size w wr) := ⟨hR, hA, hb⟩
      clear hR hA hb
      go_wp2
      go_ret
      exact ⟨_, rfl, ⟨w.heap.size, f, Nat.le_refl _, rfl, HS.out.1, fun i e hi => HS.out.2.1 i e (List.getElem?_eq_some_iff.1 hi).1 hi⟩, HS.out.2.2⟩
set_option maxHeartbeats 4000000 in
theorem toPc_own (p : Pcl) (v : Value) (w : World) (h : PclR w v p) (hP : BdPc 1048576 p) :
    Calls Tryz.prog 15 #[.agg #[.string p.frm, .string p.to, .int .i64 p.num, v]] w fun e w' => ∃ v', e = .returned (.agg #[.string p.frm, .string p.to, .int .i64 p.num, v']) ∧ OwnPs w.heap.size w' v' p.papers ∧ Below w.heap.size w w' := by
  obtain ⟨frm, tto, num, ps⟩ := p
  obtain ⟨a, cap, rfl⟩ := h.ps.val
  dsimp only at h ⊢
  have H : Hid (RowPs w (.slice a ps.length cap) ps ∧ BdPs 1048576 ps) := ⟨h.ps, hP.2.2⟩
  clear h hP
  go_enter Tryz.func15, Tryz.ntmps15
  go_wp2_with fail
  have hb0 : Below w.heap.size w (((w.alloc (.cells #[.string frm, .string tto, .int .i64 num, .slice a ps.length cap] 37)).alloc (.cells #[.string ⟨#[]⟩, .string ⟨#[]⟩, .int .i64 0, .slice none 0 0] 27)).alloc (.cells #[.string frm, .string tto, .int .i64 num, .slice none 0 0] 27)) := (((Below.refl _ _).alloc (Nat.le_refl _) _).alloc (by simp) _).alloc (by simp; omega) _
  have h3 := three w (.cells #[.string frm, .string tto, .int .i64 num, .slice a ps.length cap] 37) (.cells #[.string ⟨#[]⟩, .string ⟨#[]⟩, .int .i64 0, .slice none 0 0] 27) (.cells #[.string frm, .string tto, .int .i64 num, .slice none 0 0] 27)
  have hs0 : ((((w.alloc (.cells #[.string frm, .string tto, .int .i64 num, .slice a ps.length cap] 37)).alloc (.cells #[.string ⟨#[]⟩, .string ⟨#[]⟩, .int .i64 0, .slice none 0 0] 27)).alloc (.cells #[.string frm, .string tto, .int .i64 num, .slice none 0 0] 27))).heap.size = w.heap.size + 3 := by simp
  generalize (((w.alloc (.cells #[.string frm, .string tto, .int .i64 num, .slice a ps.length cap] 37)).alloc (.cells #[.string ⟨#[]⟩, .string ⟨#[]⟩, .int .i64 0, .slice none 0 0] 27)).alloc (.cells #[.string frm, .string tto, .int .i64 num, .slice none 0 0] 27)) = W0 at hb0 h3 hs0 ⊢
  refine (toPs_any _ ps W0 (H.out.1.below hb0) H.out.2).mono ?_
  rintro e w1 ⟨v1, rfl, hO, hb1⟩
  obtain ⟨A1, L1, C1, hv1⟩ : ∃ A1 L1 C1, v1 = .slice A1 L1 C1 := by
    obtain ⟨b', _, _, h2, _⟩ := hO
    exact ⟨_, _, _, h2⟩
  subst hv1
  have f1 := (hb1.block (w.heap.size + 1) (by omega)).trans h3.2.1
  have f2 := (hb1.block (w.heap.size + 1 + 1) (by omega)).trans h3.2.2
  have c0 : w1.cell? ⟨w.heap.size + 1, 0, none⟩ = some (.string ⟨#[]⟩) := by simp [World.cell?, f1]
  have c1 : w1.cell? ⟨w.heap.size + 1, 1, none⟩ = some (.string ⟨#[]⟩) := by simp [World.cell?, f1]
  have c2 : w1.cell? ⟨w.heap.size + 1, 2, none⟩ = some (.int .i64 0) := by simp [World.cell?, f1]
  have c3 : w1.cell? ⟨w.heap.size + 1, 3, none⟩ = some (.slice none 0 0) := by simp [World.cell?, f1]
  have d0 : w1.cell? ⟨w.heap.size + 1 + 1, 0, none⟩ = some (.string frm) := by simp [World.cell?, f2]
  have d1 : w1.cell? ⟨w.heap.size + 1 + 1, 1, none⟩ = some (.string tto) := by simp [World.cell?, f2]
  have d2 : w1.cell? ⟨w.heap.size + 1 + 1, 2, none⟩ = some (.int .i64 num) := by simp [World.cell?, f2]
  have d3 : w1.cell? ⟨w.heap.size + 1 + 1, 3, none⟩ = some (.slice none 0 0) := by simp [World.cell?, f2]
  have z1 : ∀ o, w1.frozen? ⟨w.heap.size + 1, o, none⟩ = false := fun o => by simp [World.frozen?, f1]
  have z2 : ∀ o, w1.frozen? ⟨w.heap.size + 1 + 1, o, none⟩ = false := fun o => by simp [World.frozen?, f2]
  have HD : Hid (Below w.heap.size w w1 ∧ OwnPs (w.heap.size + 3) w1 (.slice A1 L1 C1) ps) := ⟨hb0.trans (hb1.mono (by omega)), by rw [← hs0]; exact hO⟩
  clear f1 f2 hb0 hb1 hO h3
  go_wp2
  have st : ∀ (W : World) (c i : Nat) (x : Value), w.heap.size ≤ c → c < w.heap.size + 3 → (Below w.heap.size w W ∧ OwnPs (w.heap.size + 3) W (.slice A1 L1 C1) ps) → (Below w.heap.size w (W.setCell ⟨c, i, none⟩ x) ∧ OwnPs (w.heap.size + 3) (W.setCell ⟨c, i, none⟩ x) (.slice A1 L1 C1) ps) := fun W c i x g1 g2 ⟨k1, k2⟩ => ⟨k1.setCell g1 x, k2.setAt g2 i x⟩
  have hF := st _ (w.heap.size + 1) 3 (.slice A1 L1 C1) (by omega) (by omega) (st _ (w.heap.size + 1) 2 (.int .i64 num) (by omega) (by omega) (st _ (w.heap.size + 1) 1 (.string tto) (by omega) (by omega) (st _ (w.heap.size + 1) 0 (.string frm) (by omega) (by omega) (st _ (w.heap.size + 1 + 1) 3 (.slice A1 L1 C1) (by omega) (by omega) HD.out))))
  exact bodyPost_ret (v := .agg #[.string frm, .string tto, .int .i64 num, .slice A1 L1 C1]) (by simp [results, Tryz.results15, go_sem, c0, c1, c2, c3]) rfl ⟨_, rfl, hF.2.mono (by omega), hF.1⟩
theorem toPc_any (p : Pcl) (v : Value) (w : World) (h : PclR w v p) (hP : BdPc 1048576 p) :
    Calls Tryz.prog 15 #[.agg #[.string p.frm, .string p.to, .int .i64 p.num, v]] w fun e w' => ∃ v', e = .returned (.agg #[.string p.frm, .string p.to, .int .i64 p.num, v']) ∧ PclR w' v' p ∧ Below w.heap.size w w' :=
  (toPc_own p v w h hP).mono fun _ _ ⟨v', he, hO, hb⟩ => ⟨v', he, ⟨hO.row hP.2.2, h.fz, h.tz⟩, hb⟩
end Go.Proofs.YtkaolpnbddjdpaaGreatDoor
namespace Go.Proofs.YtkaolpnbddjdpaaGreatDoor
open Go.ChangeShapes Go.WideShapes Go.ChangeAt Go.RowKit
set_option maxHeartbeats 1000000 in
theorem eqS_any (v v' : Value) (ss : List ByteArray) (w : World) (h : RowS w v ss) (h' : RowS w v' ss) :
    Calls Tryz.prog 131 #[v, v'] w fun e w' => e = .returned (.bool true) ∧ Below w.heap.size w w' := by
  have hlen := h.len
  obtain ⟨a, cap, rfl⟩ := h.val
  obtain ⟨a', cap', rfl⟩ := h'.val
  have H : Hid (RowS w (.slice a ss.length cap) ss ∧ RowS w (.slice a' ss.length cap') ss) := ⟨h, h'⟩
  clear h h'
  go_enter Tryz.func131, Tryz.ntmps131
  go_wp2
  go_loopw [5] (fun i wr => ∃ k : Nat, i = .int .i64 (k : Int) ∧ k ≤ ss.length ∧ Below w.heap.size w wr) (fun i _ => ss.length - (intOf i).toNat)
  case atStart => exact ⟨0, rfl, by omega, Below.refl _ _⟩
  case round =>
    obtain ⟨k, rfl, hk, hb⟩ := hrel
    by_cases hlt : k < ss.length
    · have hlt' : (k : Int) < (ss.length : Int) := by omega
      obtain ⟨b, o, c1, s, e, hs, hc, hsz⟩ := (H.out.1.below hb).at hlt
      obtain ⟨b', o', c2, s', e', hs', hc', hsz'⟩ := (H.out.2.below hb).at hlt
      simp only [Value.slice.injEq, true_and] at e e'
      obtain ⟨rfl, rfl⟩ := e
      obtain ⟨rfl, rfl⟩ := e'
      obtain rfl : s = s' := by rw [hs] at hs'; exact Option.some.inj hs'
      have HB : Hid (Below w.heap.size w wr) := hb
      clear hs hs' hb
      go_wp2
      go_quiet (fail)
      go_wp2
      go_roundw
      case rel => exact ⟨k + 1, by go_num, by omega, below_drewN HB.out _⟩
      case measure => simp [intOf]; omega
    · obtain rfl : k = ss.length := by omega
      have HB : Hid (Below w.heap.size w wr) := hb
      clear hb
      go_wp2
      go_ret
      exact ⟨rfl, HB.out⟩
end Go.Proofs.YtkaolpnbddjdpaaGreatDoor
namespace Go.Proofs.YtkaolpnbddjdpaaGreatDoor
open Go.ChangeShapes Go.WideShapes Go.ChangeAt Go.RowKit
set_option maxHeartbeats 1000000 in
theorem eqLn_any (l : Ln) (w : World) :
    Calls Tryz.prog 163 #[.agg #[.int .i64 l.no, .string l.item, .int .i64 l.qty, .int .i64 l.money, .string l.note], .agg #[.int .i64 l.no, .string l.item, .int .i64 l.qty, .int .i64 l.money, .string l.note]] w fun e w' => e = .returned (.bool true) ∧ Below w.heap.size w w' := by
  obtain ⟨no, item, qty, money, note⟩ := l
  dsimp only
  have b0 : Below w.heap.size w ((w.alloc (.cells #[.int .i64 no, .string item, .int .i64 qty, .int .i64 money, .string note] 121)).alloc (.cells #[.int .i64 no, .string item, .int .i64 qty, .int .i64 money, .string note] 121)) := ((Below.refl _ _).alloc (Nat.le_refl _) _).alloc (by simp) _
  go_enter Tryz.func163, Tryz.ntmps163
  go_wp2
  go_ret
  exact ⟨rfl, b0⟩
set_option maxHeartbeats 1000000 in
theorem eqL_any (v v' : Value) (ls : List Ln) (w : World) (h : RowL w v ls) (h' : RowL w v' ls) :
    Calls Tryz.prog 132 #[v, v'] w fun e w' => e = .returned (.bool true) ∧ Below w.heap.size w w' := by
  have hlen := h.len
  obtain ⟨a, cap, rfl⟩ := h.val
  obtain ⟨a', cap', rfl⟩ := h'.val
  have H : Hid (RowL w (.slice a ls.length cap) ls ∧ RowL w (.slice a' ls.length cap') ls) := ⟨h, h'⟩
  clear h h'
  go_enter Tryz.func132, Tryz.ntmps132
  go_wp2
  go_loopw [5] (fun i wr => ∃ k : Nat, i = .int .i64 (k : Int) ∧ k ≤ ls.length ∧ Below w.heap.size w wr) (fun i _ => ls.length - (intOf i).toNat)
  case atStart => exact ⟨0, rfl, by omega, Below.refl _ _⟩
  case round =>
    obtain ⟨k, rfl, hk, hb⟩ := hrel
    by_cases hlt : k < ls.length
    · have hlt' : (k : Int) < (ls.length : Int) := by omega
      obtain ⟨b, o, c1, g, e, hs, ⟨q0, q1, q2, q3, q4⟩, _⟩ := (H.out.1.below hb).at hlt
      obtain ⟨b', o', c2, g', e', hs', ⟨p0, p1, p2, p3, p4⟩, _⟩ := (H.out.2.below hb).at hlt
      simp only [Value.slice.injEq, true_and] at e e'
      obtain ⟨rfl, rfl⟩ := e
      obtain ⟨rfl, rfl⟩ := e'
      obtain rfl : g = g' := by rw [hs] at hs'; exact Option.some.inj hs'
      have HB : Hid (Below w.heap.size w wr) := hb
      clear hs hs' hb
      have l1 := cell_lt q0
      have l2 := cell_lt p0
      go_wp2_with fail
      go_region_held3 (fun W => W.cell? ⟨b, o + k * 5, none⟩ = some (.int .i64 g.no) ∧ W.cell? ⟨b, o + k * 5 + 1, none⟩ = some (.string g.item) ∧ W.cell? ⟨b, o + k * 5 + 2, none⟩ = some (.int .i64 g.qty) ∧ W.cell? ⟨b, o + k * 5 + 3, none⟩ = some (.int .i64 g.money) ∧ W.cell? ⟨b, o + k * 5 + 4, none⟩ = some (.string g.note) ∧ W.cell? ⟨b', o' + k * 5, none⟩ = some (.int .i64 g.no) ∧ W.cell? ⟨b', o' + k * 5 + 1, none⟩ = some (.string g.item) ∧ W.cell? ⟨b', o' + k * 5 + 2, none⟩ = some (.int .i64 g.qty) ∧ W.cell? ⟨b', o' + k * 5 + 3, none⟩ = some (.int .i64 g.money) ∧ W.cell? ⟨b', o' + k * 5 + 4, none⟩ = some (.string g.note)) (go_keep) (first | (go_at_call 163; refine (eqLn_any g _).mono ?_; rintro e w2 ⟨rfl, hb2⟩; have yb0 := (hb2.cell (p := ⟨b, o + k * 5, none⟩) l1).trans q0; have yb1 := (hb2.cell (p := ⟨b, o + k * 5 + 1, none⟩) l1).trans q1; have yb2 := (hb2.cell (p := ⟨b, o + k * 5 + 2, none⟩) l1).trans q2; have yb3 := (hb2.cell (p := ⟨b, o + k * 5 + 3, none⟩) l1).trans q3; have yb4 := (hb2.cell (p := ⟨b, o + k * 5 + 4, none⟩) l1).trans q4; have yp0 := (hb2.cell (p := ⟨b', o' + k * 5, none⟩) l2).trans p0; have yp1 := (hb2.cell (p := ⟨b', o' + k * 5 + 1, none⟩) l2).trans p1; have yp2 := (hb2.cell (p := ⟨b', o' + k * 5 + 2, none⟩) l2).trans p2; have yp3 := (hb2.cell (p := ⟨b', o' + k * 5 + 3, none⟩) l2).trans p3; have yp4 := (hb2.cell (p := ⟨b', o' + k * 5 + 4, none⟩) l2).trans p4))
      have HB2 : Hid (Below w.heap.size w w2) := HB.out.drew.trans (hb2.mono HB.out.size)
      clear hb2
      rename_i hHeld
      clear hHeld
      go_wp2
      go_roundw
      case rel => exact ⟨k + 1, by go_num, by omega, HB2.out⟩
      case measure => simp [intOf]; omega
    · obtain rfl : k = ls.length := by omega
      have HB : Hid (Below w.heap.size w wr) := hb
      clear hb
      go_wp2
      go_ret
      exact ⟨rfl, HB.out⟩
set_option maxHeartbeats 2000000 in
theorem eqP_any (p : Pap) (vn vl vn' vl' : Value) (w : World) (h : PapR w vn vl p) (h' : PapR w vn' vl' p) :
    Calls Tryz.prog 86 #[.agg #[.int .i64 p.kind, .string p.ref, .string p.other, .int .i64 p.day, vn, vl], .agg #[.int .i64 p.kind, .string p.ref, .string p.other, .int .i64 p.day, vn', vl']] w fun e w' => e = .returned (.bool true) ∧ Below w.heap.size w w' := by
  obtain ⟨kind, ref, other, day, notes, lines⟩ := p
  obtain ⟨a, cap, rfl⟩ := h.ns.val
  obtain ⟨c, cap1, rfl⟩ := h.ls.val
  obtain ⟨a', cap', rfl⟩ := h'.ns.val
  obtain ⟨c', cap1', rfl⟩ := h'.ls.val
  dsimp only at h h' ⊢
  have b0 : Below w.heap.size w ((w.alloc (.cells #[.int .i64 kind, .string ref, .string other, .int .i64 day, .slice a notes.length cap, .slice c lines.length cap1] 66)).alloc (.cells #[.int .i64 kind, .string ref, .string other, .int .i64 day, .slice a' notes.length cap', .slice c' lines.length cap1'] 66)) := ((Below.refl _ _).alloc (Nat.le_refl _) _).alloc (by simp) _
  have H : Hid (PapR ((w.alloc (.cells #[.int .i64 kind, .string ref, .string other, .int .i64 day, .slice a notes.length cap, .slice c lines.length cap1] 66)).alloc (.cells #[.int .i64 kind, .string ref, .string other, .int .i64 day, .slice a' notes.length cap', .slice c' lines.length cap1'] 66)) (.slice a notes.length cap) (.slice c lines.length cap1) ⟨kind, ref, other, day, notes, lines⟩ ∧ PapR ((w.alloc (.cells #[.int .i64 kind, .string ref, .string other, .int .i64 day, .slice a notes.length cap, .slice c lines.length cap1] 66)).alloc (.cells #[.int .i64 kind, .string ref, .string other, .int .i64 day, .slice a' notes.length cap', .slice c' lines.length cap1'] 66)) (.slice a' notes.length cap') (.slice c' lines.length cap1') ⟨kind, ref, other, day, notes, lines⟩) := ⟨h.below b0, h'.below b0⟩
  clear h h'
  go_enter Tryz.func86, Tryz.ntmps86
  go_wp2_with fail
  refine (eqS_any _ _ notes _ H.out.1.ns H.out.2.ns).mono ?_
  rintro e w1 ⟨rfl, hb⟩
  have c5 : w1.cell? ⟨w.heap.size, 5, none⟩ = some (.slice c lines.length cap1) := (hb.cell (p := ⟨w.heap.size, 5, none⟩) (by simp; omega)).trans (by simp [go_sem])
  have d5 : w1.cell? ⟨w.heap.size + 1, 5, none⟩ = some (.slice c' lines.length cap1') := (hb.cell (p := ⟨w.heap.size + 1, 5, none⟩) (by simp)).trans (by simp [go_sem])
  have HB : Hid (Below w.heap.size w w1 ∧ RowL w1 (.slice c lines.length cap1) lines ∧ RowL w1 (.slice c' lines.length cap1') lines) := ⟨b0.trans (hb.mono (by simp; omega)), H.out.1.ls.below hb, H.out.2.ls.below hb⟩
  clear hb b0 H
  go_wp2_with fail
  refine (eqL_any _ _ lines _ HB.out.2.1 HB.out.2.2).mono ?_
  rintro e w2 ⟨rfl, hb2⟩
  have HC : Hid (Below w.heap.size w w2) := HB.out.1.trans (hb2.mono HB.out.1.size)
  clear hb2
  go_wp2
  go_ret
  exact ⟨rfl, HC.out⟩
end Go.Proofs.YtkaolpnbddjdpaaGreatDoor
