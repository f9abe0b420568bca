/- The copy of a list of texts: it reads as what it was made of, and nothing that was there is written. -/
import Derived.Test.YthjddnhdfnhalaaDoorDeepRow
import Derived.Deep.OwnRows
namespace Go.Proofs.YthjddnhdfnhalaaDoor
open Go.ChangeShapes Go.WideShapes Go.ChangeAt Go.RowKit
theorem infoS : (Tryd.prog.info? 9).map (fun i => (i.zero, i.size, i.bytes)) = some (some (.string ⟨#[]⟩), 1, 16) := by kernel_rfl
/-- A list of texts in a block of its own, not below B. -/
def OwnS (B : Nat) (W : World) (v : Value) (ss : List ByteArray) : Prop := ∃ b, B ≤ b ∧ v = .slice (some ⟨b, 0, none⟩) ss.length ss.length ∧ W.rowIs b 9 ss.length (fun i => .string (ss[i]?.getD ⟨#[]⟩))
theorem OwnS.below {B : Nat} {W W' : World} {v : Value} {ss : List ByteArray} (h : OwnS B W v ss) (hb : Below W.heap.size W W') : OwnS B W' v ss := by
  obtain ⟨b, h1, h2, h3⟩ := h
  exact ⟨b, h1, h2, h3.of_block (hb.block b h3.lt)⟩
theorem OwnS.set {B : Nat} {W : World} {v : Value} {ss : List ByteArray} (h : OwnS (B + 1) W v ss) (i : Nat) (x : Value) : OwnS (B + 1) (W.setCell ⟨B, i, none⟩ x) v ss := by
  obtain ⟨b, h1, h2, h3⟩ := h
  exact ⟨b, h1, h2, h3.setOther (show b ≠ B by omega) x⟩
theorem OwnS.mono {B C : Nat} {W : World} {v : Value} {ss : List ByteArray} (h : OwnS B W v ss) (hC : C ≤ B) : OwnS C W v ss := by
  obtain ⟨b, h1, h2, h3⟩ := h
  exact ⟨b, by omega, h2, h3⟩
theorem OwnS.row {B : Nat} {W : World} {v : Value} {ss : List ByteArray} (h : OwnS B W v ss) (hl : ss.length ≤ 9223372036854775807) (hs : ∀ (i : Nat) (s : ByteArray), ss[i]? = some s → s.size ≤ 9223372036854775807) : RowS W v ss := by
  obtain ⟨b, h1, h2, h3⟩ := h
  refine ⟨⟨_, _, h2, fun _ => ⟨b, 0, rfl, fun i s hi => ?_⟩⟩, hl, hs⟩
  have := h3.cell (List.getElem?_eq_some_iff.1 hi).1
  rw [hi, Option.getD_some] at this
  rwa [Nat.zero_add]
set_option maxHeartbeats 1000000 in
theorem toS_any (v : Value) (ss : List ByteArray) (w : World) (h : RowS w v ss) (hn : ss.length ≤ 1048576) :
    Calls Tryd.prog 57 #[v] w fun e w' => ∃ v', e = .returned v' ∧ OwnS w.heap.size w' v' ss ∧ Below w.heap.size w w' := by
  have hlen := h.len
  obtain ⟨a, cap, rfl⟩ := h.val
  have H : Hid (RowS w (.slice a ss.length cap) ss) := h
  clear h
  have hmk := run_make_row' (P := Tryd.prog) 52 9 (.string ⟨#[]⟩) 16 Tryd.underlying52 infoS rfl .i64 .i64 ss.length (by omega) (by omega)
  go_enter Tryd.func57, Tryd.ntmps57
  go_wp2
  go_loopw [4] (fun i wr => ∃ k : Nat, i = .int .i64 (k : Int) ∧ k ≤ ss.length ∧ wr.rowIs w.heap.size 9 ss.length (fun j => if j < k then .string (ss[j]?.getD ⟨#[]⟩) else .string ⟨#[]⟩) ∧ Below w.heap.size w wr) (fun i _ => ss.length - (intOf i).toNat)
  case atStart => exact ⟨0, rfl, by omega, (World.rowIs_made w (.string ⟨#[]⟩) ss.length 9).congr (fun i _ => by simp), (Below.refl _ _).alloc (Nat.le_refl _) _⟩
  case round =>
    obtain ⟨k, rfl, hk, hR, hb⟩ := hrel
    by_cases hlt : k < ss.length
    · have hlt' : (k : Int) < (ss.length : Int) := by omega
      obtain ⟨b, o, cap', s, e, hs, hc, hsz⟩ := (H.out.below hb).at hlt
      simp only [Value.slice.injEq, true_and] at e
      obtain ⟨rfl, rfl⟩ := e
      have hfz := hR.frozen
      have hck := hR.cell hlt
      simp only [Nat.lt_irrefl, if_false] at hck
      have HS : Hid (ss[k]? = some s ∧ wr.rowIs w.heap.size 9 ss.length (fun j => if j < k then .string (ss[j]?.getD ⟨#[]⟩) else .string ⟨#[]⟩) ∧ Below w.heap.size w wr) := ⟨hs, hR, hb⟩
      clear hs hR hb
      go_wp2
      go_roundw
      case rel =>
        refine ⟨k + 1, by go_num, by omega, (HS.out.2.1.set k (.string s)).congr (fun j hj => ?_), HS.out.2.2.setCell (Nat.le_refl _) _⟩
        by_cases e : j = k
        · subst e
          rw [if_pos rfl, if_pos (by omega), HS.out.1, Option.getD_some]
        · rw [if_neg e]
          by_cases g : j < k
          · rw [if_pos g, if_pos (by omega)]
          · rw [if_neg g, if_neg (by omega)]
      case measure => simp [intOf]; omega
    · obtain rfl : k = ss.length := by omega
      have HS : Hid (wr.rowIs w.heap.size 9 ss.length (fun j => if j < ss.length then .string (ss[j]?.getD ⟨#[]⟩) else .string ⟨#[]⟩) ∧ Below w.heap.size w wr) := ⟨hR, hb⟩
      clear hR hb
      go_wp2
      go_ret
      exact ⟨_, rfl, ⟨w.heap.size, Nat.le_refl _, rfl, HS.out.1.congr (fun j hj => by rw [if_pos hj])⟩, HS.out.2⟩
theorem three (w : World) (o0 o1 o2 : Obj) : (((w.alloc o0).alloc o1).alloc o2).heap[w.heap.size]? = some o0 ∧ (((w.alloc o0).alloc o1).alloc o2).heap[w.heap.size + 1]? = some o1 ∧ (((w.alloc o0).alloc o1).alloc o2).heap[w.heap.size + 1 + 1]? = some o2 := by
  have e : (((w.alloc o0).alloc o1).alloc o2).heap = ((w.heap.push o0).push o1).push o2 := rfl
  rw [e]
  simp only [Array.getElem?_push, Array.size_push]
  refine ⟨?_, ?_, ?_⟩
  · rw [if_neg (by omega), if_neg (by omega), if_pos trivial]
  · rw [if_neg (by omega), if_pos trivial]
  · rw [if_pos trivial]
end Go.Proofs.YthjddnhdfnhalaaDoor
