/- Texts of ours put together: SlD. -/
import Derived.Test.YtibjmokhkjklkaaDoorG16
import Derived.Test.YtibjmokhkjklkaaDoorG17
import Derived.Test.YtibjmokhkjklkaaDoorG05
import Derived.Lib.Join
namespace Go.Proofs.YtibjmokhkjklkaaDoor
open Go.ChangeShapes Go.WideShapes Go.ChangeAt Go.RowKit
theorem join_ev (e : EvR) : Lib.join ((evR e).map (·.data.toList)) [32] = (evX e).data.toList := by
  unfold evR evX
  repeat' split
  all_goals simp [Lib.join_cons, Lib.joinTail, evW, ByteArray.data_append]
theorem gby_below {w W W' : World} {o : Option Nat} (h : w.grownBy W o) (hb : Below W.heap.size W W') : w.grownBy W' o :=
  ⟨hb.os.trans h.os, hb.tape.trans h.tape, hb.output.trans h.output, Nat.le_trans h.size hb.size, fun k hk hn => (hb.block k (Nat.lt_of_lt_of_le hk h.size)).trans (h.block k hk hn)⟩
theorem below_gby {w W W' : World} {o : Option Nat} (h : Below w.heap.size w W) (hb : W.grownBy W' o) : w.grownBy W' o :=
  ⟨hb.os.trans h.os, hb.tape.trans h.tape, hb.output.trans h.output, Nat.le_trans h.size hb.size, fun k hk hn => (hb.block k (Nat.lt_of_lt_of_le hk h.size) hn).trans (h.block k hk)⟩
theorem wrd_gby {w W : World} {B : Nat} (h : WrdAt w) (hg : w.grownBy W (some B)) (hB : B ≠ 0) : WrdAt W := fun k hk => by
  have h0 := h k hk
  have hlt := World.block_lt_of_cell? _ _ h0
  rw [← h0]
  unfold World.cell?
  rw [hg.block 0 hlt (by intro e; cases e; exact hB rfl)]
set_option maxRecDepth 100000 in
set_option maxHeartbeats 4000000 in
theorem text_ev {r : Nat → Value} (B : Nat) (e : EvR) (ho : EvOk e) (w : World) (h : Dgt false 88 21 r B w) (hB : B < w.heap.size) (hw : WrdAt w) :
    Calls Tryd.prog 41 #[.pointer (some ⟨B, 0, none⟩), .agg #[.int .i64 e.kind, .string e.a, .string e.b, .string e.c]] w fun x w' => x = .returned (.string (evX e)) ∧ Dgt false 88 21 r B w' ∧ w.grownBy w' (some B) := by
  obtain ⟨W0, hW0⟩ : ∃ W0, w.alloc (.cells #[.int .i64 e.kind, .string e.a, .string e.b, .string e.c] 40) = W0 := ⟨_, rfl⟩
  have hb0 : Below w.heap.size w W0 := by rw [← hW0]; exact (Below.refl _ _).alloc (Nat.le_refl _) _
  have k0 : W0.heap[w.heap.size]? = some (.cells #[.int .i64 e.kind, .string e.a, .string e.b, .string e.c] 40) := by rw [← hW0]; exact World.alloc_heap_new _ _
  obtain ⟨x0, x1, x2, x3⟩ := bx4e k0
  have hsz := evX_size (evB_yes ho)
  have HQ : Hid (Calls Tryd.prog 53 #[.pointer (some ⟨B, 0, none⟩), .agg #[.int .i64 e.kind, .string e.a, .string e.b, .string e.c]] W0 fun x w' => (∃ c C, x = .returned (.slice (some ⟨c, 0, none⟩) (evR e).length C) ∧ ∀ j t, (evR e)[j]? = some t → j < C ∧ w'.cell? ⟨c, j, none⟩ = some (.string t)) ∧ Dgt false 88 21 r B w' ∧ W0.grownBy w' (some B)) := words_any B e ho W0 (h.below hb0) (by have := hb0.size; omega) (hw.below hb0)
  have HB : Hid (Below w.heap.size w W0) := hb0
  clear h hw hb0 k0
  go_enter Tryd.func41, Tryd.ntmps41
  go_wp2_with fail
  try rw [hW0]
  clear hW0
  go_wp2_with fail
  refine HQ.out.mono ?_
  rintro x w1 ⟨⟨c, C, rfl, hc⟩, hd1, hg1⟩
  have hl := evR_len e
  have h0 := hc 0 ((evR e)[0]'hl.1) (List.getElem?_eq_getElem hl.1)
  have hcl := World.block_lt_of_cell? _ _ h0.2
  have hC : (evR e).length ≤ C := by
    have := (hc ((evR e).length - 1) ((evR e)[(evR e).length - 1]'(by omega)) (List.getElem?_eq_getElem _)).1
    omega
  have HJ : Hid (Calls Tryd.prog 52 #[.slice (some ⟨c, 0, none⟩) (evR e).length C, .string ⟨#[32]⟩] w1 fun x w' => x = .returned (.string ⟨(Lib.join ((evR e).map (·.data.toList)) (⟨#[32]⟩ : ByteArray).data.toList).toArray⟩) ∧ Below w1.heap.size w1 w') := join_any c 0 C (evR e) ⟨#[32]⟩ w1 (fun j x hj => by rw [Nat.zero_add]; exact (hc j x hj).2) hcl (by omega) hC (by
    show (Lib.join ((evR e).map (·.data.toList)) [32]).length ≤ _
    rw [join_ev]
    have : (evX e).data.toList.length = (evX e).size := rfl
    omega)
  have HD : Hid (Dgt false 88 21 r B w1 ∧ w.grownBy w1 (some B)) := ⟨hd1, below_gby HB.out hg1⟩
  have HE : Hid ((⟨(Lib.join ((evR e).map (·.data.toList)) (⟨#[32]⟩ : ByteArray).data.toList).toArray⟩ : ByteArray) = evX e) := by
    apply ByteArray.ext
    apply Array.toList_inj.1
    exact join_ev e
  clear hc hd1 hg1 h0 hcl hl hC HQ x0 x1 x2 x3
  go_wp2_with fail
  refine HJ.out.mono ?_
  rintro x w2 ⟨rfl, hb2⟩
  have H2 : Hid (Below w1.heap.size w1 w2) := hb2
  rw [HE.out]
  clear hb2 HJ HE
  go_wp2
  go_ret
  exact ⟨rfl, HD.out.1.below H2.out, gby_below HD.out.2 H2.out⟩
/-- What the closure holds: the number in block N, the scribe's address in block S. -/
structure Sl (r : Nat → Value) (B N S : Nat) (x : Int) (W : World) : Prop where
  num : W.heap[N]? = some (.cells #[.int .i64 x] 2)
  scr : W.heap[S]? = some (.cells #[.pointer (some ⟨B, 0, none⟩)] 58)
  dgt : Dgt false 88 21 r B W
  ne : N ≠ B ∧ S ≠ B ∧ S ≠ N ∧ B ≠ 0
  lt : B < W.heap.size
/-- All but the closure's own number and the scribe is as it was. -/
structure KeepS (B N : Nat) (w w' : World) : Prop where
  os : w'.os = w.os
  tape : w'.tape = w.tape
  output : w'.output = w.output
  size : w.heap.size ≤ w'.heap.size
  block : ∀ k, k < w.heap.size → k ≠ B → k ≠ N → w'.heap[k]? = w.heap[k]?
theorem KeepS.refl (B N : Nat) (w : World) : KeepS B N w w := ⟨rfl, rfl, rfl, Nat.le_refl _, fun _ _ _ _ => rfl⟩
theorem KeepS.trans {B N : Nat} {a b c : World} (h : KeepS B N a b) (g : KeepS B N b c) : KeepS B N a c := ⟨g.os.trans h.os, g.tape.trans h.tape, g.output.trans h.output, Nat.le_trans h.size g.size, fun k hk h1 h2 => (g.block k (Nat.lt_of_lt_of_le hk h.size) h1 h2).trans (h.block k hk h1 h2)⟩
theorem KeepS.of_below {B N : Nat} {a b : World} (h : Below a.heap.size a b) : KeepS B N a b := ⟨h.os, h.tape, h.output, h.size, fun k hk _ _ => h.block k hk⟩
theorem KeepS.of_gby {B N : Nat} {a b : World} (h : a.grownBy b (some B)) : KeepS B N a b := ⟨h.os, h.tape, h.output, h.size, fun k hk h1 _ => h.block k hk (by simpa using h1)⟩
theorem KeepS.set {B N : Nat} (a : World) (x : Value) : KeepS B N a (a.setCell ⟨N, 0, none⟩ x) := ⟨rfl, rfl, rfl, by simp, fun k _ _ h2 => by rw [heap_setCell_other _ _ _ _ h2]⟩
theorem KeepS.below {B N n : Nat} {a b w : World} (h : KeepS B N a b) (hb : Below n w a) (h1 : n ≤ B) (h2 : n ≤ N) (h3 : n ≤ a.heap.size) : Below n w b := ⟨h.os.trans hb.os, h.tape.trans hb.tape, h.output.trans hb.output, Nat.le_trans hb.size h.size, fun k hk => (h.block k (by omega) (by omega) (by omega)).trans (hb.block k hk)⟩
theorem KeepS.wrd {B N : Nat} {w W : World} (hg : KeepS B N w W) (h : WrdAt w) (hB : B ≠ 0) (hN : N ≠ 0) : WrdAt W := fun k hk => by
  have h0 := h k hk
  have hlt := World.block_lt_of_cell? _ _ h0
  rw [← h0]
  unfold World.cell?
  rw [hg.block 0 hlt (Ne.symm hB) (Ne.symm hN)]
theorem Sl.below {r : Nat → Value} {B N S : Nat} {x : Int} {W W' : World} (h : Sl r B N S x W) (hb : Below W.heap.size W W') : Sl r B N S x W' :=
  ⟨(hb.block _ (Array.getElem?_eq_some_iff.1 h.num).1).trans h.num, (hb.block _ (Array.getElem?_eq_some_iff.1 h.scr).1).trans h.scr, h.dgt.below hb, h.ne, Nat.lt_of_lt_of_le h.lt hb.size⟩
theorem Sl.gby {r : Nat → Value} {B N S : Nat} {x : Int} {W W' : World} (h : Sl r B N S x W) (hg : W.grownBy W' (some B)) (hd : Dgt false 88 21 r B W') : Sl r B N S x W' :=
  ⟨(hg.block _ (Array.getElem?_eq_some_iff.1 h.num).1 (by intro e; cases e; exact h.ne.1 rfl)).trans h.num, (hg.block _ (Array.getElem?_eq_some_iff.1 h.scr).1 (by intro e; cases e; exact h.ne.2.1 rfl)).trans h.scr, hd, h.ne, Nat.lt_of_lt_of_le h.lt hg.size⟩
theorem dgt_blockS {r : Nat → Value} {B : Nat} {W W' : World} (h : Dgt false 88 21 r B W) (e : W'.heap[B]? = W.heap[B]?) : Dgt false 88 21 r B W' := by
  rcases h with h | ⟨m, hne, h, _⟩
  · exact .new (h.of_block e)
  · exact .made m hne (h.of_block e) (fun e => by cases e)
theorem Sl.set {r : Nat → Value} {B N S : Nat} {x : Int} {W : World} (h : Sl r B N S x W) (y : Int) : Sl r B N S y (W.setCell ⟨N, 0, none⟩ (.int .i64 y)) :=
  ⟨heap_setCell_same _ N 0 _ _ _ h.num, (heap_setCell_other _ _ _ _ h.ne.2.2.1).trans h.scr, dgt_blockS h.dgt (heap_setCell_other _ _ _ _ (Ne.symm h.ne.1)), h.ne, by simp [World.setCell]; exact h.lt⟩
/-- All blocks but B and N, and blocks from n on. -/
theorem Sl.grown {r : Nat → Value} {B N S n : Nat} {x : Int} {W W' : World} {o : Option Nat} (h : Sl r B N S x W) (hg : W.grownBy W' o) (ho : ∀ k, o = some k → n ≤ k) (h1 : B < n) (h2 : N < n) (h3 : S < n) : Sl r B N S x W' :=
  ⟨(hg.block _ (Array.getElem?_eq_some_iff.1 h.num).1 (fun e => by have := ho _ e.symm; omega)).trans h.num, (hg.block _ (Array.getElem?_eq_some_iff.1 h.scr).1 (fun e => by have := ho _ e.symm; omega)).trans h.scr, dgt_blockS h.dgt (hg.block _ h.lt (fun e => by have := ho _ e.symm; omega)), h.ne, Nat.lt_of_lt_of_le h.lt hg.size⟩
theorem bx1S {W : World} {b t : Nat} {x : Value} (h : W.heap[b]? = some (.cells #[x] t)) : W.cell? ⟨b, 0, none⟩ = some x ∧ W.frozen? ⟨b, 0, none⟩ = false := by
  constructor <;> simp [World.cell?, World.frozen?, h]
end Go.Proofs.YtibjmokhkjklkaaDoor
