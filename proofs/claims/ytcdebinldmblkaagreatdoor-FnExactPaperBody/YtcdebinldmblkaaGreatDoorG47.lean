/- Texts of ours put together: ToL, MkPp, SRowT. -/
import Derived.Test.YtcdebinldmblkaaGreatDoorG07
import Derived.Test.YtcdebinldmblkaaGreatDoorG46
import Derived.Test.YtcdebinldmblkaaGreatDoorG00
import Derived.Test.YtcdebinldmblkaaGreatDoorRows
import Derived.WalkKit
import Derived.ProofKit
import Derived.OpenShut
import Derived.ShutString
import Derived.ChangeOld
import Derived.Below
import Derived.WalkLawsBesides
import Derived.WalkSpells
import Derived.Deep.Light
import Derived.Handy
import Derived.Deep.QuietTactic
import Derived.BigQuiet
import Derived.Deep.RegionHeld3
import Derived.Laws.BytesArg
namespace Go.Proofs.YtcdebinldmblkaaGreatDoor
open Go.ChangeShapes Go.WideShapes Go.ChangeAt Go.RowKit
theorem infoLnT : (Tryz.prog.info? 63).map (fun i => (i.zero, i.size, i.bytes)) = some (some (.agg #[.int .i64 0, .string ⟨#[]⟩, .int .i64 0, .int .i64 0, .string ⟨#[]⟩]), 5, 56) := by kernel_rfl
theorem run_make_ln (n : Nat) (hn : n ≤ 1048576) (w : World) : (Instr.makeSlice 29 (.int .i64 (n : Int)) (.int .i64 (n : Int))).run Tryz.prog w = .ok (.slice (some ⟨w.heap.size, 0, none⟩) n n) (w.alloc (.cells (madeCells #[.int .i64 0, .string ⟨#[]⟩, .int .i64 0, .int .i64 0, .string ⟨#[]⟩] (n * 5)) 63)) := by
  obtain ⟨i0, hi, hz0, hz1, hz2⟩ := info_parts infoLnT
  have h := run_make (P := Tryz.prog) w 29 63 i0 (.agg #[.int .i64 0, .string ⟨#[]⟩, .int .i64 0, .int .i64 0, .string ⟨#[]⟩]) Tryz.underlying29 hi hz0 .i64 .i64 (n : Int) (n : Int) (by omega) (by omega) (by rw [hz2]; omega) (by omega)
  rw [hz1] at h
  simpa [Value.cells] using h
theorem rowIs_anyL (w : World) (c : Array Value) (t n : Nat) (hn : c.size = n) : ∃ f, (w.alloc (.cells c t)).rowIs w.heap.size t n f := by
  subst hn
  exact ⟨fun i => c[i]?.getD undef, World.rowIs_alloc w c t _ (fun i hi => by simp [hi])⟩
set_option maxHeartbeats 1000000 in
theorem toLn_any (l : Ln) (w : World) :
    Calls Tryz.prog 37 #[.agg #[.int .i64 l.no, .string l.item, .int .i64 l.qty, .int .i64 l.money, .string l.note]] w fun e w' => e = .returned (.agg #[.int .i64 l.no, .string l.item, .int .i64 l.qty, .int .i64 l.money, .string l.note]) ∧ Below w.heap.size w w' := by
  obtain ⟨no, item, qty, money, note⟩ := l
  dsimp only
  go_enter Tryz.func37, Tryz.ntmps37
  go_wp2
  exact bodyPost_ret (v := .agg #[.int .i64 no, .string item, .int .i64 qty, .int .i64 money, .string note]) (by simp [results, Tryz.results37, go_sem]) rfl ⟨rfl, (((Below.refl _ _).alloc (Nat.le_refl _) _).alloc (by simp) _).alloc (by simp; omega) _⟩
/-- A list of lines in a block of its own, not below B. -/
def OwnLn (B : Nat) (W : World) (v : Value) (ls : List Ln) : Prop := ∃ (b : Nat) (f : Nat → Value), B ≤ b ∧ v = .slice (some ⟨b, 0, none⟩) ls.length ls.length ∧ W.rowIs b 63 (ls.length * 5) f ∧ ∀ (i : Nat) (g : Ln), ls[i]? = some g → f (i * 5) = .int .i64 g.no ∧ f (i * 5 + 1) = .string g.item ∧ f (i * 5 + 2) = .int .i64 g.qty ∧ f (i * 5 + 3) = .int .i64 g.money ∧ f (i * 5 + 4) = .string g.note
theorem OwnLn.row {B : Nat} {W : World} {v : Value} {ls : List Ln} (h : OwnLn B W v ls) (hG : BdL 1048576 ls) : RowL W v ls := by
  obtain ⟨b, f, h1, h2, h3, h4⟩ := h
  have hl := hG.1
  refine ⟨⟨_, _, h2, fun _ => ⟨b, 0, rfl, fun i g hi => ?_⟩⟩, by omega, fun i g hi => ⟨Nat.le_trans (hG.2 i g hi).1 (by omega), Nat.le_trans (hG.2 i g hi).2 (by omega)⟩⟩
  have hlt := (List.getElem?_eq_some_iff.1 hi).1
  obtain ⟨e0, e1, e2, e3, e4⟩ := h4 i g hi
  have c0 := h3.cell (i := i * 5) (by omega)
  have c1 := h3.cell (i := i * 5 + 1) (by omega)
  have c2 := h3.cell (i := i * 5 + 2) (by omega)
  have c3 := h3.cell (i := i * 5 + 3) (by omega)
  have c4 := h3.cell (i := i * 5 + 4) (by omega)
  rw [e0] at c0; rw [e1] at c1; rw [e2] at c2; rw [e3] at c3; rw [e4] at c4
  rw [Nat.zero_add]
  exact ⟨c0, c1, c2, c3, c4⟩
theorem OwnLn.below {B : Nat} {W W' : World} {v : Value} {ls : List Ln} (h : OwnLn B W v ls) (hb : Below W.heap.size W W') : OwnLn B W' v ls := by
  obtain ⟨b, f, h1, h2, h3, h4⟩ := h
  exact ⟨b, f, h1, h2, h3.of_block (hb.block b h3.lt), h4⟩
theorem OwnLn.setAt {B c : Nat} {W : World} {v : Value} {ls : List Ln} (h : OwnLn B W v ls) (hc : c < B) (i : Nat) (x : Value) : OwnLn B (W.setCell ⟨c, i, none⟩ x) v ls := by
  obtain ⟨b, f, h1, h2, h3, h4⟩ := h
  exact ⟨b, f, h1, h2, h3.setOther (show b ≠ c by omega) x, h4⟩
theorem OwnS.setAt {B c : Nat} {W : World} {v : Value} {ss : List ByteArray} (h : OwnS B W v ss) (hc : c < B) (i : Nat) (x : Value) : OwnS B (W.setCell ⟨c, i, none⟩ x) v ss := by
  obtain ⟨b, h1, h2, h3⟩ := h
  exact ⟨b, h1, h2, h3.setOther (show b ≠ c by omega) x⟩
set_option maxHeartbeats 2000000 in
theorem toL_any (v : Value) (ls : List Ln) (w : World) (h : RowL w v ls) (hG : BdL 1048576 ls) :
    Calls Tryz.prog 18 #[v] w fun e w' => ∃ v', e = .returned v' ∧ OwnLn w.heap.size w' v' ls ∧ Below w.heap.size w w' := by
  have hlen := hG.1
  obtain ⟨a, cap, rfl⟩ := h.val
  have H : Hid (RowL w (.slice a ls.length cap) ls ∧ BdL 1048576 ls) := ⟨h, hG⟩
  clear h hG
  obtain ⟨M, hM, hMs⟩ : ∃ M : Array Value, madeCells #[.int .i64 0, .string ⟨#[]⟩, .int .i64 0, .int .i64 0, .string ⟨#[]⟩] (ls.length * 5) = M ∧ M.size = ls.length * 5 := ⟨_, rfl, size_madeCells _ _⟩
  have hmk := run_make_ln ls.length hlen
  rw [hM] at hmk
  obtain ⟨f0, hf0⟩ := rowIs_anyL w M 63 (ls.length * 5) hMs
  have HF0 : Hid ((w.alloc (.cells M 63)).rowIs w.heap.size 63 (ls.length * 5) f0) := hf0
  clear hM hMs hf0
  go_enter Tryz.func18, Tryz.ntmps18
  go_wp2
  go_loopw [4] (fun i wr => ∃ (k : Nat) (f : Nat → Value), i = .int .i64 (k : Int) ∧ k ≤ ls.length ∧ wr.rowIs w.heap.size 63 (ls.length * 5) f ∧ (∀ (j : Nat) (g : Ln), j < k → ls[j]? = some g → f (j * 5) = .int .i64 g.no ∧ f (j * 5 + 1) = .string g.item ∧ f (j * 5 + 2) = .int .i64 g.qty ∧ f (j * 5 + 3) = .int .i64 g.money ∧ f (j * 5 + 4) = .string g.note) ∧ Below w.heap.size w wr) (fun i _ => ls.length - (intOf i).toNat)
  case atStart => exact ⟨0, f0, rfl, by omega, HF0.out, fun j e hj => by omega, (Below.refl _ _).alloc (Nat.le_refl _) _⟩
  case round =>
    obtain ⟨k, f, rfl, hk, hR, hA, hb⟩ := hrel
    by_cases hlt : k < ls.length
    · have hlt' : (k : Int) < (ls.length : Int) := by omega
      obtain ⟨b, o, cap', g, ee, hs, ⟨q0, q1, q2, q3, q4⟩, hsz⟩ := (H.out.1.below hb).at hlt
      simp only [Value.slice.injEq, true_and] at ee
      obtain ⟨rfl, rfl⟩ := ee
      have HS : Hid (ls[k]? = some g ∧ wr.rowIs w.heap.size 63 (ls.length * 5) f ∧ (∀ (j : Nat) (g : Ln), j < k → ls[j]? = some g → f (j * 5) = .int .i64 g.no ∧ f (j * 5 + 1) = .string g.item ∧ f (j * 5 + 2) = .int .i64 g.qty ∧ f (j * 5 + 3) = .int .i64 g.money ∧ f (j * 5 + 4) = .string g.note) ∧ Below w.heap.size w wr) := ⟨hs, hR, hA, hb⟩
      clear hs hR hA hb
      go_wp2_with fail
      refine (toLn_any g _).mono ?_
      rintro ee w1 ⟨rfl, hb1⟩
      have hlt0 := HS.out.2.1.lt
      have hR1 : w1.rowIs w.heap.size 63 (ls.length * 5) f := HS.out.2.1.of_block (hb1.block _ hlt0)
      have hfz := hR1.frozen
      have k0 := hR1.cell (i := k * 5) (by omega)
      have k1 := hR1.cell (i := k * 5 + 1) (by omega)
      have k2 := hR1.cell (i := k * 5 + 2) (by omega)
      have k3 := hR1.cell (i := k * 5 + 3) (by omega)
      have k4 := hR1.cell (i := k * 5 + 4) (by omega)
      have H1 : Hid (ls[k]? = some g ∧ w1.rowIs w.heap.size 63 (ls.length * 5) f ∧ (∀ (j : Nat) (g : Ln), j < k → ls[j]? = some g → f (j * 5) = .int .i64 g.no ∧ f (j * 5 + 1) = .string g.item ∧ f (j * 5 + 2) = .int .i64 g.qty ∧ f (j * 5 + 3) = .int .i64 g.money ∧ f (j * 5 + 4) = .string g.note) ∧ Below w.heap.size w w1) := ⟨HS.out.1, hR1, HS.out.2.2.1, HS.out.2.2.2.trans (hb1.mono HS.out.2.2.2.size)⟩
      clear HS hR1 hb1
      go_wp2
      go_roundw
      case rel =>
        refine ⟨k + 1, _, by go_num, by omega, ((((H1.out.2.1.set (k * 5) (.int .i64 g.no)).set (k * 5 + 1) (.string g.item)).set (k * 5 + 2) (.int .i64 g.qty)).set (k * 5 + 3) (.int .i64 g.money)).set (k * 5 + 4) (.string g.note), fun j t hj ht => ?_, ((((H1.out.2.2.2.setCell (Nat.le_refl _) _).setCell (Nat.le_refl _) _).setCell (Nat.le_refl _) _).setCell (Nat.le_refl _) _).setCell (Nat.le_refl _) _⟩
        by_cases e1 : j = k
        · subst e1
          rw [H1.out.1] at ht
          cases ht
          refine ⟨?_, ?_, ?_, ?_, ?_⟩
          · rw [if_neg (by omega), if_neg (by omega), if_neg (by omega), if_neg (by omega), if_pos rfl]
          · rw [if_neg (by omega), if_neg (by omega), if_neg (by omega), if_pos rfl]
          · rw [if_neg (by omega), if_neg (by omega), if_pos rfl]
          · rw [if_neg (by omega), if_pos rfl]
          · rw [if_pos rfl]
        · obtain ⟨r0, r1, r2, r3, r4⟩ := H1.out.2.2.1 j t (by omega) ht
          refine ⟨?_, ?_, ?_, ?_, ?_⟩
          all_goals rw [if_neg (by omega), if_neg (by omega), if_neg (by omega), if_neg (by omega), if_neg (by omega)]
          all_goals assumption
      case measure => simp [intOf]; omega
    · obtain rfl : k = ls.length := by omega
      have HS : Hid (wr.rowIs w.heap.size 63 (ls.length * 5) f ∧ (∀ (j : Nat) (g : Ln), j < ls.length → ls[j]? = some g → f (j * 5) = .int .i64 g.no ∧ f (j * 5 + 1) = .string g.item ∧ f (j * 5 + 2) = .int .i64 g.qty ∧ f (j * 5 + 3) = .int .i64 g.money ∧ f (j * 5 + 4) = .string g.note) ∧ Below w.heap.size w wr) := ⟨hR, hA, hb⟩
      clear hR hA hb
      go_wp2
      go_ret
      exact ⟨_, rfl, ⟨w.heap.size, f, Nat.le_refl _, rfl, HS.out.1, fun i e hi => HS.out.2.1 i e (List.getElem?_eq_some_iff.1 hi).1 hi⟩, HS.out.2.2⟩
/-- The lists of a paper in blocks of their own, not below B. -/
def OwnP (B : Nat) (W : World) (vn vl : Value) (p : Pap) : Prop := OwnS B W vn p.notes ∧ OwnLn B W vl p.lines
theorem OwnP.row {B : Nat} {W : World} {vn vl : Value} {p : Pap} (h : OwnP B W vn vl p) (hP : BdP 1048576 p) : PapR W vn vl p := by
  obtain ⟨u3, u4, u1, u2⟩ := hP
  have hl := u1.1
  exact ⟨h.1.row (by omega) (fun i s hi => Nat.le_trans (u1.2 i s hi) (by omega)), h.2.row u2, Nat.le_trans u3 (by omega), Nat.le_trans u4 (by omega)⟩
theorem OwnP.below {B : Nat} {W W' : World} {vn vl : Value} {p : Pap} (h : OwnP B W vn vl p) (hb : Below W.heap.size W W') : OwnP B W' vn vl p := ⟨h.1.below hb, h.2.below hb⟩
theorem OwnP.setAt {B c : Nat} {W : World} {vn vl : Value} {p : Pap} (h : OwnP B W vn vl p) (hc : c < B) (i : Nat) (x : Value) : OwnP B (W.setCell ⟨c, i, none⟩ x) vn vl p := ⟨h.1.setAt hc i x, h.2.setAt hc i x⟩
theorem OwnP.mono {B C : Nat} {W : World} {vn vl : Value} {p : Pap} (h : OwnP B W vn vl p) (hC : C ≤ B) : OwnP C W vn vl p := by
  obtain ⟨h1, b, f, k1, k2⟩ := h
  exact ⟨h1.mono hC, b, f, by omega, k2⟩
set_option maxHeartbeats 4000000 in
theorem toP_own (p : Pap) (vn vl : Value) (w : World) (h : PapR w vn vl p) (hP : BdP 1048576 p) :
    Calls Tryz.prog 6 #[.agg #[.int .i64 p.kind, .string p.ref, .string p.other, .int .i64 p.day, vn, vl]] w fun e w' => ∃ vn' vl', e = .returned (.agg #[.int .i64 p.kind, .string p.ref, .string p.other, .int .i64 p.day, vn', vl']) ∧ OwnP w.heap.size w' vn' vl' p ∧ Below w.heap.size w w' := by
  obtain ⟨kind, ref, other, day, notes, lines⟩ := p
  obtain ⟨a, cap, rfl⟩ := h.ns.val
  obtain ⟨a', cap', rfl⟩ := h.ls.val
  dsimp only at h ⊢
  obtain ⟨hp1, hp2, hp3, hp4⟩ := hP
  dsimp only at hp1 hp2 hp3 hp4
  have H : Hid (RowS w (.slice a notes.length cap) notes ∧ RowL w (.slice a' lines.length cap') lines ∧ BdS 1048576 notes ∧ BdL 1048576 lines ∧ ref.size ≤ 1048576 ∧ other.size ≤ 1048576) := ⟨h.ns, h.ls, hp3, hp4, hp1, hp2⟩
  clear h hp1 hp2 hp3 hp4
  go_enter Tryz.func6, Tryz.ntmps6
  go_wp2_with fail
  have hb0 : Below w.heap.size w (((w.alloc (.cells #[.int .i64 kind, .string ref, .string other, .int .i64 day, .slice a notes.length cap, .slice a' lines.length cap'] 25)).alloc (.cells #[.int .i64 0, .string ⟨#[]⟩, .string ⟨#[]⟩, .int .i64 0, .slice none 0 0, .slice none 0 0] 31)).alloc (.cells #[.int .i64 kind, .string ref, .string other, .int .i64 day, .slice none 0 0, .slice none 0 0] 31)) := (((Below.refl _ _).alloc (Nat.le_refl _) _).alloc (by simp) _).alloc (by simp; omega) _
  have h3 := three w (.cells #[.int .i64 kind, .string ref, .string other, .int .i64 day, .slice a notes.length cap, .slice a' lines.length cap'] 25) (.cells #[.int .i64 0, .string ⟨#[]⟩, .string ⟨#[]⟩, .int .i64 0, .slice none 0 0, .slice none 0 0] 31) (.cells #[.int .i64 kind, .string ref, .string other, .int .i64 day, .slice none 0 0, .slice none 0 0] 31)
  have hs0 : ((((w.alloc (.cells #[.int .i64 kind, .string ref, .string other, .int .i64 day, .slice a notes.length cap, .slice a' lines.length cap'] 25)).alloc (.cells #[.int .i64 0, .string ⟨#[]⟩, .string ⟨#[]⟩, .int .i64 0, .slice none 0 0, .slice none 0 0] 31)).alloc (.cells #[.int .i64 kind, .string ref, .string other, .int .i64 day, .slice none 0 0, .slice none 0 0] 31))).heap.size = w.heap.size + 3 := by simp
  generalize (((w.alloc (.cells #[.int .i64 kind, .string ref, .string other, .int .i64 day, .slice a notes.length cap, .slice a' lines.length cap'] 25)).alloc (.cells #[.int .i64 0, .string ⟨#[]⟩, .string ⟨#[]⟩, .int .i64 0, .slice none 0 0, .slice none 0 0] 31)).alloc (.cells #[.int .i64 kind, .string ref, .string other, .int .i64 day, .slice none 0 0, .slice none 0 0] 31)) = W0 at hb0 h3 hs0 ⊢
  refine (toS_any _ notes W0 (H.out.1.below hb0) H.out.2.2.1.1).mono ?_
  rintro e w1 ⟨v1, rfl, hO, hb1⟩
  obtain ⟨A1, L1, C1, hv1⟩ : ∃ A1 L1 C1, v1 = .slice A1 L1 C1 := by
    obtain ⟨b', _, h2, _⟩ := hO
    exact ⟨_, _, _, h2⟩
  subst hv1
  have f0 := (hb1.block w.heap.size (by omega)).trans h3.1
  have f1 := (hb1.block (w.heap.size + 1) (by omega)).trans h3.2.1
  have f2 := (hb1.block (w.heap.size + 1 + 1) (by omega)).trans h3.2.2
  have a5 : w1.cell? ⟨w.heap.size, 5, none⟩ = some (.slice a' lines.length cap') := by simp [World.cell?, f0]
  have c0 : w1.cell? ⟨w.heap.size + 1, 0, none⟩ = some (.int .i64 0) := by simp [World.cell?, f1]
  have c1 : w1.cell? ⟨w.heap.size + 1, 1, none⟩ = some (.string ⟨#[]⟩) := by simp [World.cell?, f1]
  have c2 : w1.cell? ⟨w.heap.size + 1, 2, none⟩ = some (.string ⟨#[]⟩) := by simp [World.cell?, f1]
  have c3 : w1.cell? ⟨w.heap.size + 1, 3, none⟩ = some (.int .i64 0) := by simp [World.cell?, f1]
  have c4 : w1.cell? ⟨w.heap.size + 1, 4, none⟩ = some (.slice none 0 0) := by simp [World.cell?, f1]
  have c5 : w1.cell? ⟨w.heap.size + 1, 5, none⟩ = some (.slice none 0 0) := by simp [World.cell?, f1]
  have d0 : w1.cell? ⟨w.heap.size + 1 + 1, 0, none⟩ = some (.int .i64 kind) := by simp [World.cell?, f2]
  have d1 : w1.cell? ⟨w.heap.size + 1 + 1, 1, none⟩ = some (.string ref) := by simp [World.cell?, f2]
  have d2 : w1.cell? ⟨w.heap.size + 1 + 1, 2, none⟩ = some (.string other) := by simp [World.cell?, f2]
  have d3 : w1.cell? ⟨w.heap.size + 1 + 1, 3, none⟩ = some (.int .i64 day) := by simp [World.cell?, f2]
  have d4 : w1.cell? ⟨w.heap.size + 1 + 1, 4, none⟩ = some (.slice none 0 0) := by simp [World.cell?, f2]
  have d5 : w1.cell? ⟨w.heap.size + 1 + 1, 5, none⟩ = some (.slice none 0 0) := by simp [World.cell?, f2]
  have z1 : ∀ o, w1.frozen? ⟨w.heap.size + 1, o, none⟩ = false := fun o => by simp [World.frozen?, f1]
  have z2 : ∀ o, w1.frozen? ⟨w.heap.size + 1 + 1, o, none⟩ = false := fun o => by simp [World.frozen?, f2]
  have HB : Hid (Below w.heap.size w w1 ∧ OwnS (w.heap.size + 3) w1 (.slice A1 L1 C1) notes ∧ w.heap.size + 3 ≤ w1.heap.size) := ⟨hb0.trans (hb1.mono (by omega)), by rw [← hs0]; exact hO, by have := hb1.size; omega⟩
  clear f0 f1 f2 hb0 hb1 hO h3
  go_wp2_with fail
  have cc0 : (w1.setCell ⟨w.heap.size + 1 + 1, 4, none⟩ (.slice A1 L1 C1)).cell? ⟨w.heap.size + 1, 0, none⟩ = some (.int .i64 0) := by simp [go_sem, c0]
  have dd0 : (w1.setCell ⟨w.heap.size + 1 + 1, 4, none⟩ (.slice A1 L1 C1)).cell? ⟨w.heap.size + 1 + 1, 0, none⟩ = some (.int .i64 kind) := by simp [go_sem, d0]
  have cc1 : (w1.setCell ⟨w.heap.size + 1 + 1, 4, none⟩ (.slice A1 L1 C1)).cell? ⟨w.heap.size + 1, 1, none⟩ = some (.string ⟨#[]⟩) := by simp [go_sem, c1]
  have dd1 : (w1.setCell ⟨w.heap.size + 1 + 1, 4, none⟩ (.slice A1 L1 C1)).cell? ⟨w.heap.size + 1 + 1, 1, none⟩ = some (.string ref) := by simp [go_sem, d1]
  have cc2 : (w1.setCell ⟨w.heap.size + 1 + 1, 4, none⟩ (.slice A1 L1 C1)).cell? ⟨w.heap.size + 1, 2, none⟩ = some (.string ⟨#[]⟩) := by simp [go_sem, c2]
  have dd2 : (w1.setCell ⟨w.heap.size + 1 + 1, 4, none⟩ (.slice A1 L1 C1)).cell? ⟨w.heap.size + 1 + 1, 2, none⟩ = some (.string other) := by simp [go_sem, d2]
  have cc3 : (w1.setCell ⟨w.heap.size + 1 + 1, 4, none⟩ (.slice A1 L1 C1)).cell? ⟨w.heap.size + 1, 3, none⟩ = some (.int .i64 0) := by simp [go_sem, c3]
  have dd3 : (w1.setCell ⟨w.heap.size + 1 + 1, 4, none⟩ (.slice A1 L1 C1)).cell? ⟨w.heap.size + 1 + 1, 3, none⟩ = some (.int .i64 day) := by simp [go_sem, d3]
  have cc4 : (w1.setCell ⟨w.heap.size + 1 + 1, 4, none⟩ (.slice A1 L1 C1)).cell? ⟨w.heap.size + 1, 4, none⟩ = some (.slice none 0 0) := by simp [go_sem, c4]
  have dd4 : (w1.setCell ⟨w.heap.size + 1 + 1, 4, none⟩ (.slice A1 L1 C1)).cell? ⟨w.heap.size + 1 + 1, 4, none⟩ = some (.slice A1 L1 C1) := by simp [go_sem, d4]
  have cc5 : (w1.setCell ⟨w.heap.size + 1 + 1, 4, none⟩ (.slice A1 L1 C1)).cell? ⟨w.heap.size + 1, 5, none⟩ = some (.slice none 0 0) := by simp [go_sem, c5]
  have dd5 : (w1.setCell ⟨w.heap.size + 1 + 1, 4, none⟩ (.slice A1 L1 C1)).cell? ⟨w.heap.size + 1 + 1, 5, none⟩ = some (.slice none 0 0) := by simp [go_sem, d5]
  have Z1 : ∀ o, (w1.setCell ⟨w.heap.size + 1 + 1, 4, none⟩ (.slice A1 L1 C1)).frozen? ⟨w.heap.size + 1, o, none⟩ = false := fun o => by simp [go_sem, z1]
  have Z2 : ∀ o, (w1.setCell ⟨w.heap.size + 1 + 1, 4, none⟩ (.slice A1 L1 C1)).frozen? ⟨w.heap.size + 1 + 1, o, none⟩ = false := fun o => by simp [go_sem, z2]
  have HC : Hid (Below w.heap.size w (w1.setCell ⟨w.heap.size + 1 + 1, 4, none⟩ (.slice A1 L1 C1)) ∧ OwnS (w.heap.size + 3) (w1.setCell ⟨w.heap.size + 1 + 1, 4, none⟩ (.slice A1 L1 C1)) (.slice A1 L1 C1) notes ∧ w.heap.size + 3 ≤ (w1.setCell ⟨w.heap.size + 1 + 1, 4, none⟩ (.slice A1 L1 C1)).heap.size) := ⟨HB.out.1.setCell (show w.heap.size ≤ w.heap.size + 1 + 1 by omega) _, HB.out.2.1.setAt (by omega) _ _, by have := HB.out.2.2; simpa using this⟩
  generalize (w1.setCell ⟨w.heap.size + 1 + 1, 4, none⟩ (.slice A1 L1 C1)) = W2 at *
  clear c0 d0 c1 d1 c2 d2 c3 d3 c4 d4 c5 d5 z1 z2 a5 HB
  have hlt2 := HC.out.2.2
  refine (toL_any _ lines W2 (H.out.2.1.below HC.out.1) H.out.2.2.2.1).mono ?_
  rintro e w2 ⟨v2, rfl, hO2, hb2⟩
  obtain ⟨A2, L2, C2, hv2⟩ : ∃ A2 L2 C2, v2 = .slice A2 L2 C2 := by
    obtain ⟨b', _, _, h2, _⟩ := hO2
    exact ⟨_, _, _, h2⟩
  subst hv2
  have c0 := (hb2.cell (p := ⟨w.heap.size + 1, 0, none⟩) (show w.heap.size + 1 < W2.heap.size by omega)).trans cc0
  have d0 := (hb2.cell (p := ⟨w.heap.size + 1 + 1, 0, none⟩) (show w.heap.size + 1 + 1 < W2.heap.size by omega)).trans dd0
  have c1 := (hb2.cell (p := ⟨w.heap.size + 1, 1, none⟩) (show w.heap.size + 1 < W2.heap.size by omega)).trans cc1
  have d1 := (hb2.cell (p := ⟨w.heap.size + 1 + 1, 1, none⟩) (show w.heap.size + 1 + 1 < W2.heap.size by omega)).trans dd1
  have c2 := (hb2.cell (p := ⟨w.heap.size + 1, 2, none⟩) (show w.heap.size + 1 < W2.heap.size by omega)).trans cc2
  have d2 := (hb2.cell (p := ⟨w.heap.size + 1 + 1, 2, none⟩) (show w.heap.size + 1 + 1 < W2.heap.size by omega)).trans dd2
  have c3 := (hb2.cell (p := ⟨w.heap.size + 1, 3, none⟩) (show w.heap.size + 1 < W2.heap.size by omega)).trans cc3
  have d3 := (hb2.cell (p := ⟨w.heap.size + 1 + 1, 3, none⟩) (show w.heap.size + 1 + 1 < W2.heap.size by omega)).trans dd3
  have c4 := (hb2.cell (p := ⟨w.heap.size + 1, 4, none⟩) (show w.heap.size + 1 < W2.heap.size by omega)).trans cc4
  have d4 := (hb2.cell (p := ⟨w.heap.size + 1 + 1, 4, none⟩) (show w.heap.size + 1 + 1 < W2.heap.size by omega)).trans dd4
  have c5 := (hb2.cell (p := ⟨w.heap.size + 1, 5, none⟩) (show w.heap.size + 1 < W2.heap.size by omega)).trans cc5
  have d5 := (hb2.cell (p := ⟨w.heap.size + 1 + 1, 5, none⟩) (show w.heap.size + 1 + 1 < W2.heap.size by omega)).trans dd5
  have z1 : ∀ o, w2.frozen? ⟨w.heap.size + 1, o, none⟩ = false := fun o => (hb2.frozen (p := ⟨w.heap.size + 1, o, none⟩) (show w.heap.size + 1 < W2.heap.size by omega)).trans (Z1 o)
  have z2 : ∀ o, w2.frozen? ⟨w.heap.size + 1 + 1, o, none⟩ = false := fun o => (hb2.frozen (p := ⟨w.heap.size + 1 + 1, o, none⟩) (show w.heap.size + 1 + 1 < W2.heap.size by omega)).trans (Z2 o)
  have HD : Hid (Below w.heap.size w w2 ∧ OwnS (w.heap.size + 3) w2 (.slice A1 L1 C1) notes ∧ OwnLn (w.heap.size + 3) w2 (.slice A2 L2 C2) lines) := ⟨HC.out.1.trans (hb2.mono HC.out.1.size), HC.out.2.1.below hb2, by obtain ⟨b, f, g1, g2⟩ := hO2; exact ⟨b, f, by omega, g2⟩⟩
  clear cc0 dd0 cc1 dd1 cc2 dd2 cc3 dd3 cc4 dd4 cc5 dd5 Z1 Z2 hb2 hO2 HC
  go_wp2
  have st : ∀ (W : World) (c i : Nat) (x : Value), w.heap.size ≤ c → c < w.heap.size + 3 → (Below w.heap.size w W ∧ OwnS (w.heap.size + 3) W (.slice A1 L1 C1) notes ∧ OwnLn (w.heap.size + 3) W (.slice A2 L2 C2) lines) → (Below w.heap.size w (W.setCell ⟨c, i, none⟩ x) ∧ OwnS (w.heap.size + 3) (W.setCell ⟨c, i, none⟩ x) (.slice A1 L1 C1) notes ∧ OwnLn (w.heap.size + 3) (W.setCell ⟨c, i, none⟩ x) (.slice A2 L2 C2) lines) := fun W c i x g1 g2 ⟨k1, k2, k3⟩ => ⟨k1.setCell g1 x, k2.setAt g2 i x, k3.setAt g2 i x⟩
  have hF := st _ (w.heap.size + 1) 5 (.slice A2 L2 C2) (by omega) (by omega) (st _ (w.heap.size + 1) 4 (.slice A1 L1 C1) (by omega) (by omega) (st _ (w.heap.size + 1) 3 (.int .i64 day) (by omega) (by omega) (st _ (w.heap.size + 1) 2 (.string other) (by omega) (by omega) (st _ (w.heap.size + 1) 1 (.string ref) (by omega) (by omega) (st _ (w.heap.size + 1) 0 (.int .i64 kind) (by omega) (by omega) (st _ (w.heap.size + 1 + 1) 5 (.slice A2 L2 C2) (by omega) (by omega) HD.out))))))
  exact bodyPost_ret (v := .agg #[.int .i64 kind, .string ref, .string other, .int .i64 day, .slice A1 L1 C1, .slice A2 L2 C2]) (by simp [results, Tryz.results6, go_sem, c0, c1, c2, c3, c4, c5]) rfl ⟨_, _, rfl, ⟨hF.2.1.mono (by omega), by obtain ⟨b, f, g1, g2⟩ := hF.2.2; exact ⟨b, f, by omega, g2⟩⟩, hF.1⟩
theorem toP_any (p : Pap) (vn vl : Value) (w : World) (h : PapR w vn vl p) (hP : BdP 1048576 p) :
    Calls Tryz.prog 6 #[.agg #[.int .i64 p.kind, .string p.ref, .string p.other, .int .i64 p.day, vn, vl]] w fun e w' => ∃ vn' vl', e = .returned (.agg #[.int .i64 p.kind, .string p.ref, .string p.other, .int .i64 p.day, vn', vl']) ∧ PapR w' vn' vl' p ∧ Below w.heap.size w w' :=
  (toP_own p vn vl w h hP).mono fun _ _ ⟨vn', vl', he, hO, hb⟩ => ⟨vn', vl', he, hO.row hP, hb⟩
end Go.Proofs.YtcdebinldmblkaaGreatDoor
namespace Go.Proofs.YtcdebinldmblkaaGreatDoor
open Go.ChangeShapes Go.WideShapes Go.ChangeAt Go.RowKit
/-- A row of lines whose scalars may be written. -/
def ShL (lo hi : Nat) (W : World) (v : Value) (n : Nat) : Prop := ∃ A C, v = .slice A n C ∧ (0 < n → ∃ b, A = some ⟨b, 0, none⟩ ∧ lo ≤ b ∧ b < hi ∧ (∀ o, W.frozen? ⟨b, o, none⟩ = false) ∧ ∀ i, i < n → (∃ z, W.cell? ⟨b, i * 5, none⟩ = some (.int .i64 z)) ∧ (∃ t, W.cell? ⟨b, i * 5 + 1, none⟩ = some (.string t)) ∧ (∃ z, W.cell? ⟨b, i * 5 + 2, none⟩ = some (.int .i64 z)) ∧ (∃ z, W.cell? ⟨b, i * 5 + 3, none⟩ = some (.int .i64 z)) ∧ ∃ t, W.cell? ⟨b, i * 5 + 4, none⟩ = some (.string t))
theorem ShL.tame {lo hi n : Nat} {W W' : World} {v : Value} (h : ShL lo hi W v n) (k : Tame lo hi W W') : ShL lo hi W' v n := by
  obtain ⟨A, C, rfl, h⟩ := h
  refine ⟨A, C, rfl, fun hn => ?_⟩
  obtain ⟨b, h1, h2, h3, h4, h5⟩ := h hn
  obtain ⟨⟨z0, c0⟩, _⟩ := h5 0 hn
  have hb : b < W.heap.size := cell_lt c0
  refine ⟨b, h1, h2, h3, fun o => k.fz b o hb (h4 o), fun i hi' => ?_⟩
  obtain ⟨⟨a0, q0⟩, ⟨a1, q1⟩, ⟨a2, q2⟩, ⟨a3, q3⟩, a4, q4⟩ := h5 i hi'
  exact ⟨k.nu _ _ _ q0, k.st _ _ _ q1, k.nu _ _ _ q2, k.nu _ _ _ q3, k.st _ _ _ q4⟩
theorem OwnLn.sh {B : Nat} {W : World} {v : Value} {ls : List Ln} (h : OwnLn B W v ls) {lo hi : Nat} (hlo : lo ≤ B) (hhi : W.heap.size ≤ hi) : ShL lo hi W v ls.length := by
  obtain ⟨b, f, h1, h2, h3, h4⟩ := h
  have := h3.lt
  refine ⟨_, _, h2, fun _ => ⟨b, rfl, by omega, by omega, h3.frozen, fun i hi' => ?_⟩⟩
  obtain ⟨e0, e1, e2, e3, e4⟩ := h4 i _ (List.getElem?_eq_getElem hi')
  have c0 := h3.cell (i := i * 5) (by omega)
  have c1 := h3.cell (i := i * 5 + 1) (by omega)
  have c2 := h3.cell (i := i * 5 + 2) (by omega)
  have c3 := h3.cell (i := i * 5 + 3) (by omega)
  have c4 := h3.cell (i := i * 5 + 4) (by omega)
  rw [e0] at c0
  rw [e1] at c1
  rw [e2] at c2
  rw [e3] at c3
  rw [e4] at c4
  exact ⟨⟨_, c0⟩, ⟨_, c1⟩, ⟨_, c2⟩, ⟨_, c3⟩, _, c4⟩
set_option maxHeartbeats 2000000 in
theorem markLn_w (v : Value) (n lo hi k0 : Nat) (w : World) (h : ShL lo hi w v n) (hn : n ≤ 1048576) (hk0 : 0 < k0) (hk1 : k0 + n * 5 < 1099511627776) :
    Calls Tryz.prog 25 #[v, .int .i64 k0] w fun e w' => e = .returned (.int .i64 ((k0 + n * 5 : Nat) : Int)) ∧ Tame lo hi w w' := by
  obtain ⟨A, C, rfl, h⟩ := h
  have HT : Hid (ShL lo hi w (.slice A n C) n) := ⟨A, C, rfl, h⟩
  clear h
  go_enter Tryz.func25, Tryz.ntmps25
  go_wp2
  go_loopw [1, 5] (fun kv i wr => ∃ k : Nat, k ≤ n ∧ i = .int .i64 k ∧ kv = .int .i64 ((k0 + k * 5 : Nat) : Int) ∧ Tame lo hi w wr) (fun _ i _ => n - (intOf i).toNat)
  case atStart => exact ⟨0, Nat.zero_le _, rfl, by simp, Tame.refl _ _ _⟩
  case round =>
    obtain ⟨k, hk, rfl, rfl, hT⟩ := hrel
    by_cases hlt : k < n
    · have hlt' : (k : Int) < (n : Int) := by omega
      obtain ⟨A', C', ee, hh⟩ := HT.out.tame hT
      simp only [Value.slice.injEq, true_and] at ee
      obtain ⟨rfl, rfl⟩ := ee
      obtain ⟨b, rfl, hlo, hhi, zu, hc⟩ := hh (by omega)
      obtain ⟨⟨z0, p0⟩, ⟨z1, p1⟩, ⟨z2, p2⟩, ⟨z3, p3⟩, z4, p4⟩ := hc k hlt
      obtain ⟨m, hm⟩ : ∃ m, m = k0 + k * 5 := ⟨_, rfl⟩
      have HM0 : Hid (m = k0 + k * 5) := hm
      rw [← hm]
      have hmb : 0 < m ∧ m + 5 < 1099511627776 := by omega
      have FA : Hid (∀ W, Tame lo hi w W → (∀ o, W.frozen? ⟨b, o, none⟩ = false) ∧ (∃ z, W.cell? ⟨b, k * 5, none⟩ = some (.int .i64 z)) ∧ (∃ t, W.cell? ⟨b, k * 5 + 1, none⟩ = some (.string t)) ∧ (∃ z, W.cell? ⟨b, k * 5 + 2, none⟩ = some (.int .i64 z)) ∧ (∃ z, W.cell? ⟨b, k * 5 + 3, none⟩ = some (.int .i64 z)) ∧ ∃ t, W.cell? ⟨b, k * 5 + 4, none⟩ = some (.string t)) := fun W hW => by
        obtain ⟨A', C', ee, hh⟩ := HT.out.tame hW
        simp only [Value.slice.injEq, true_and] at ee
        obtain ⟨rfl, rfl⟩ := ee
        obtain ⟨b', eb, _, _, zu, hc⟩ := hh (by omega)
        simp only [Option.some.injEq, Addr.mk.injEq, and_true] at eb
        subst eb
        exact ⟨zu, hc k hlt⟩
      have H1 : Hid (Tame lo hi w (wr.setCell ⟨b, k * 5, none⟩ (.int .i64 (m : Int)))) := hT.trans (Tame.setI hlo hhi p0 _)
      clear hh hc hT hm
      go_wp2_with fail
      refine (markText_w (m + 1) _ (by omega) (by omega)).mono ?_
      rintro e w3 ⟨t3, rfl, hb3⟩
      have hT3 := H1.out.trans (Tame.of_below (lo := lo) (hi := hi) hb3)
      clear zu p0 p1 p2 p3 p4 hb3
      obtain ⟨zu, ⟨z0, p0⟩, ⟨z1, p1⟩, ⟨z2, p2⟩, ⟨z3, p3⟩, z4, p4⟩ := FA.out w3 hT3
      have hT4 := hT3.trans (Tame.setS hlo hhi p1 t3)
      obtain ⟨_, _, _, ⟨_, o2⟩, _⟩ := FA.out _ hT4
      have hT5 := hT4.trans (Tame.setI hlo hhi o2 ((m + 2 : Nat) : Int))
      obtain ⟨_, _, _, _, ⟨_, o3⟩, _⟩ := FA.out _ hT5
      have H6 : Hid (Tame lo hi w (((w3.setCell ⟨b, k * 5 + 1, none⟩ (.string t3)).setCell ⟨b, k * 5 + 2, none⟩ (.int .i64 ((m + 2 : Nat) : Int))).setCell ⟨b, k * 5 + 3, none⟩ (.int .i64 ((m + 3 : Nat) : Int)))) := hT5.trans (Tame.setI hlo hhi o3 _)
      clear hT3 hT4 hT5 o2 o3 H1
      go_wp2_with fail
      refine (markText_w (m + 4) _ (by omega) (by omega)).mono ?_
      rintro e w7 ⟨t7, rfl, hb7⟩
      have hT7 := H6.out.trans (Tame.of_below (lo := lo) (hi := hi) hb7)
      clear zu p0 p1 p2 p3 p4 hb7
      obtain ⟨zu, _, _, _, _, z4, p4⟩ := FA.out w7 hT7
      have HM : Hid (Tame lo hi w (w7.setCell ⟨b, k * 5 + 4, none⟩ (.string t7))) := hT7.trans (Tame.setS hlo hhi p4 t7)
      clear hT7 H6
      go_wp2
      go_roundw
      case rel => exact ⟨k + 1, by omega, by go_num, by have := HM0.out; first | go_num | (congr 1; omega), HM.out⟩
      case measure => simp [intOf]; omega
    · have hge : (n : Int) ≤ (k : Int) := by omega
      obtain rfl : k = n := by omega
      have HK : Hid (Tame lo hi w wr) := hT
      clear hT
      go_wp2
      go_ret
      exact ⟨rfl, HK.out⟩
set_option maxHeartbeats 2000000 in
theorem markP_w (kind day : Int) (ref other : ByteArray) (vn vl : Value) (n m lo hi k0 : Nat) (w : World) (h1 : ShS lo hi w vn n) (h2 : ShL lo hi w vl m) (hk0 : 0 < k0 ∧ m ≤ 1048576) (hk1 : k0 + n + m * 5 < 1099511627776) :
    Calls Tryz.prog 10 #[.agg #[.int .i64 kind, .string ref, .string other, .int .i64 day, vn, vl], .int .i64 k0] w fun e w' => e = .returned (.int .i64 ((k0 + n + m * 5 : Nat) : Int)) ∧ Tame lo hi w w' := by
  obtain ⟨An, Cn, e1, h1'⟩ := h1
  obtain ⟨Al, Cl, e2, h2'⟩ := h2
  subst e1 e2
  obtain ⟨W0, hW0⟩ : ∃ W0, w.alloc (.cells #[.int .i64 kind, .string ref, .string other, .int .i64 day, .slice An n Cn, .slice Al m Cl] 31) = W0 := ⟨_, rfl⟩
  have hb0 : Below w.heap.size w W0 := by rw [← hW0]; exact (Below.refl _ _).alloc (Nat.le_refl _) _
  have kx : W0.heap[w.heap.size]? = some (.cells #[.int .i64 kind, .string ref, .string other, .int .i64 day, .slice An n Cn, .slice Al m Cl] 31) := by rw [← hW0]; exact World.alloc_heap_new _ _
  have t0 : Tame lo hi w W0 := Tame.of_below hb0
  have H0 : Hid (ShS lo hi W0 (.slice An n Cn) n ∧ ShL lo hi W0 (.slice Al m Cl) m ∧ Tame lo hi w W0) := ⟨ShS.tame ⟨An, Cn, rfl, h1'⟩ t0, ShL.tame ⟨Al, Cl, rfl, h2'⟩ t0, t0⟩
  clear h1' h2' hb0 t0
  go_enter Tryz.func10, Tryz.ntmps10
  go_upto_region 1 with fail
  try rw [hW0]
  clear hW0
  have x4 : W0.cell? ⟨w.heap.size, 4, none⟩ = some (.slice An n Cn) := by simp [World.cell?, kx]
  have x5 : W0.cell? ⟨w.heap.size, 5, none⟩ = some (.slice Al m Cl) := by simp [World.cell?, kx]
  go_wp2_with fail
  refine (markS_w _ n lo hi k0 _ H0.out.1 hk0.1 (by omega)).mono ?_
  rintro e w1 ⟨rfl, hT⟩
  have y5 := hT.sl _ _ _ _ _ x5
  have H1 : Hid (ShL lo hi w1 (.slice Al m Cl) m ∧ Tame lo hi w w1) := ⟨H0.out.2.1.tame hT, H0.out.2.2.trans hT⟩
  clear hT x4 x5 kx H0
  go_wp2_with fail
  refine (markLn_w _ m lo hi (k0 + n) _ H1.out.1 hk0.2 (by omega) (by omega)).mono ?_
  rintro e w2 ⟨rfl, hT⟩
  have H2 : Hid (Tame lo hi w w2) := H1.out.2.trans hT
  clear hT y5
  go_wp2
  go_ret
  exact ⟨rfl, H2.out⟩
end Go.Proofs.YtcdebinldmblkaaGreatDoor
namespace Go.Proofs.YtcdebinldmblkaaGreatDoor
open Go.ChangeShapes Go.WideShapes Go.ChangeAt Go.RowKit
/-- A list of strings that lies in block g from n₀ on, or is empty. -/
structure SRow (W : World) (n₀ g : Nat) (ad : Option Addr) (T : List ByteArray) : Prop where
  at_ : 0 < T.length → ad = some ⟨g, 0, none⟩
  base : 0 < T.length → n₀ ≤ g
  cell : ∀ i, i < T.length → W.cell? ⟨g, i, none⟩ = some (.string (T[i]?.getD ⟨#[]⟩))
  fz : 0 < T.length → ∀ o, W.frozen? ⟨g, o, none⟩ = false
theorem SRow.keep {W W' : World} {n₀ g B : Nat} {ad : Option Addr} {T : List ByteArray} (h : SRow W n₀ g ad T) (hk : Keep B W W') (hB : 0 < T.length → g ≠ B) : SRow W' n₀ g ad T :=
  ⟨h.at_, h.base, fun i hi => hk.cell (h.cell i hi) (hB (by omega)), fun g0 o => (hk.frozen (cell_lt (h.cell 0 g0)) o (hB g0)).trans (h.fz g0 o)⟩
theorem SRow.below {W W' : World} {n₀ g : Nat} {ad : Option Addr} {T : List ByteArray} (h : SRow W n₀ g ad T) (hb : Below W.heap.size W W') : SRow W' n₀ g ad T :=
  h.keep (Keep.of_below (B := g + 1) hb) (fun _ => by omega)
theorem SRow.of_owns {W : World} {n₀ : Nat} {v : Value} {T : List ByteArray} (h : W.ownsRow n₀ 9 1 v T.length (T.map Value.string)) : ∃ g ad cap, v = .slice ad T.length cap ∧ SRow W n₀ g ad T := by
  rcases h.2 with ⟨rfl, e⟩ | ⟨g, cap, cur, rfl, hb, hgb, _, _, _, htk⟩
  · exact ⟨0, none, 0, by rw [e], ⟨fun h => by omega, fun h => by omega, fun i hi => by omega, fun h => by omega⟩⟩
  · refine ⟨g, _, cap, rfl, ⟨fun _ => rfl, fun _ => hb, fun i hi => ?_, fun _ o => by simp [World.frozen?, hgb]⟩⟩
    have h1 : (cur.toList.take (T.length * 1))[i]? = (T.map Value.string)[i]? := by rw [htk]
    rw [List.getElem?_take_of_lt (by omega)] at h1
    simp [World.cell?, hgb, List.getElem?_eq_getElem hi] at h1 ⊢
    rw [h1]
end Go.Proofs.YtcdebinldmblkaaGreatDoor
