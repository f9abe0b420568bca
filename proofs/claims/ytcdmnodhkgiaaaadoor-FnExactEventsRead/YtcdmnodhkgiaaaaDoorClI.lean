/- Contract of cutLines. -/
import Derived.Test.YtcdmnodhkgiaaaaDoorPcP
import Derived.Test.YtcdmnodhkgiaaaaDoorAppTx
import Derived.Test.YtcdmnodhkgiaaaaDoorDgU
import Derived.BigQuiet
namespace Go.Proofs.YtcdmnodhkgiaaaaDoor
open Go.ChangeShapes Go.WideShapes Go.ChangeAt Go.RowKit
/-- What the loop of cutLines keeps. -/
structure ClK (w : World) (t : ByteArray) (pos b : Nat) (lv : Value) (ls : List ByteArray) (W : World) : Prop where
  row : W.ownsRow (w.heap.size + 1) 9 1 lv ls.length (ls.map Value.string)
  it : W.heap[w.heap.size]? = some (.stringIter t pos)
  bel : Below w.heap.size w W
  siz : w.heap.size + 1 ≤ W.heap.size
  len : ls.length ≤ pos
theorem ClK.next {w : World} {t : ByteArray} {pos b : Nat} {lv : Value} {ls : List ByteArray} {W : World} (h : ClK w t pos b lv ls W) (pos' : Nat) (hp : pos ≤ pos') : ClK w t pos' b lv ls (W.iterAt w.heap.size t pos') := by
  have hs := h.siz
  have hg := gby_iter W w.heap.size t pos'
  refine ⟨h.row.kept hg ?_, Lib.iterAt_heap W _ t pos pos' h.it, ?_, by simpa [World.iterAt] using hs, Nat.le_trans h.len hp⟩
  · cases hv : lv.ownBlock with
    | none => exact .inl rfl
    | some j =>
      refine .inr fun e => ?_
      have := (h.row.lt j hv).1
      simp only [Option.some.injEq] at e
      omega
  · exact ⟨h.bel.os, h.bel.tape, h.bel.output, by have := h.bel.size; simpa [World.iterAt] using this, fun k hk => (iterAt_ne _ _ _ _ _ (by omega)).trans (h.bel.block k hk)⟩
theorem ClK.app {w : World} {t : ByteArray} {pos b : Nat} {lv : Value} {ls : List ByteArray} {W W' : World} {b' : Nat} {v' : Value} {x : ByteArray} (h : ClK w t pos b lv ls W) (ho : W'.ownsRow (w.heap.size + 1) 9 1 v' (ls.length + 1) ((ls ++ [x]).map Value.string)) (hg : W.grownBy W' lv.ownBlock) (hp : ls.length + 1 ≤ pos) : ClK w t pos b' v' (ls ++ [x]) W' := by
  have hs := h.siz
  have hne : ∀ k, k < w.heap.size + 1 → W'.heap[k]? = W.heap[k]? := fun k hk => hg.block k (by omega) fun e => by
    have := (h.row.lt k e.symm).1
    omega
  refine ⟨by simpa using ho, (hne _ (by omega)).trans h.it, ⟨hg.os.trans h.bel.os, hg.tape.trans h.bel.tape, hg.output.trans h.bel.output, Nat.le_trans h.bel.size hg.size, fun k hk => (hne k (by omega)).trans (h.bel.block k hk)⟩, Nat.le_trans hs hg.size, by simpa using hp⟩
theorem ClK.alloc {w : World} {t : ByteArray} {pos b : Nat} {lv : Value} {ls : List ByteArray} {W : World} (h : ClK w t pos b lv ls W) (o : Obj) : ClK w t pos b lv ls (W.alloc o) := by
  have hb : Below W.heap.size W (W.alloc o) := (Below.refl _ _).alloc (Nat.le_refl _) o
  have hs := h.siz
  exact ⟨ownTx_below h.row hb, (hb.block _ (by omega)).trans h.it, h.bel.trans (hb.mono h.bel.size), Nat.le_trans hs hb.size, h.len⟩
set_option maxRecDepth 100000 in
set_option maxHeartbeats 4000000 in
theorem cutLines_any (t : ByteArray) (ht : t.size ≤ 20000) (w : World) : Calls Tryd.prog 27 #[.string t] w fun e w' => ∃ A C ls rest, pcB 10 t = ls ++ [rest] ∧ e = .returned (.tuple #[.slice A ls.length C, .string rest]) ∧ w'.ownsRow w.heap.size 9 1 (.slice A ls.length C) ls.length (ls.map Value.string) ∧ Below w.heap.size w w' ∧ ls.length ≤ t.size := by
  have HW : Hid (ClK w t 0 0 (.slice none 0 0) [] (w.iter t 0)) := by
    have hb : Below w.heap.size w (w.iter t 0) := (Below.refl _ _).alloc (Nat.le_refl _) _
    exact ⟨World.ownsRow_nil _ _ _ _, World.iter_heap w t 0, hb, by simp [World.iter], Nat.le_refl _⟩
  go_enter Tryd.func27, Tryd.ntmps27
  go_wp2
  go_loopw [4, 5] (fun lv bv wr => ∃ (pos b : Nat) (A : Option Addr) (C : Nat) (ls : List ByteArray), lv = .slice A ls.length C ∧ bv = .int .i64 (b : Int) ∧ b ≤ pos ∧ pos ≤ t.size ∧ PcAt 10 t b pos ls ∧ ClK w t pos b (.slice A ls.length C) ls wr) (fun _ _ wr => t.size - wr.iterPos w.heap.size)
  case atStart => exact ⟨0, 0, none, 0, [], rfl, rfl, by omega, by omega, PcAt.start _ _, HW.out⟩
  case round =>
    obtain ⟨pos, b, A, C, ls, rfl, rfl, hbp, hps, hP, hI⟩ := hrel
    have HP : Hid (PcAt 10 t b pos ls) := hP
    have HI : Hid (ClK w t pos b (.slice A ls.length C) ls wr) := hI
    have hmu : Hid (wr.iterPos w.heap.size = pos) := show wr.iterPos w.heap.size = pos by simp [World.iterPos, hI.it]
    have hlen := hI.len
    clear hI hP HW
    by_cases hp : pos < t.size
    · by_cases hten : t[pos]'hp = 10
      · have hnext : ∀ ty, (Instr.next (.pointer (some ⟨w.heap.size, 0, none⟩)) true ty).run Tryd.prog wr = .ok (.tuple #[.bool true, .int .i64 pos, .int .i32 10]) (wr.iterAt w.heap.size t (pos + 1)) := fun ty => by
          have := Lib.run_next_ascii_at (P := Tryd.prog) wr w.heap.size t pos ty HI.out.it hp (by rw [hten]; decide)
          rw [hten] at this
          exact this
        have H1 : Hid (ClK w t (pos + 1) b (.slice A ls.length C) ls (wr.iterAt w.heap.size t (pos + 1))) := HI.out.next _ (by omega)
        clear HI
        generalize wr.iterAt w.heap.size t (pos + 1) = W1 at hnext H1
        have HN : Hid (PcAt 10 t (pos + 1) (pos + 1) (ls ++ [t.extract b pos])) := HP.out.hit hp hten
        have hrow5 := (H1.out.alloc (.cells #[.string (t.extract b pos)] 9)).row
        have H5 : Hid (ClK w t (pos + 1) b (.slice A ls.length C) ls (W1.alloc (.cells #[.string (t.extract b pos)] 9))) := H1.out.alloc _
        have hc5 : (W1.alloc (.cells #[.string (t.extract b pos)] 9)).cell? ⟨W1.heap.size, 0, none⟩ = some (.string (t.extract b pos)) := by simp [go_sem]
        have hs5 : w.heap.size + 1 ≤ (W1.alloc (.cells #[.string (t.extract b pos)] 9)).heap.size := H5.out.siz
        have hlen5 : ls.length + 1 ≤ 2000000 := by omega
        have hb1 : (b : Int) ≤ (pos : Int) := by omega
        have hb2 : (pos : Int) ≤ (t.size : Int) := by omega
        clear hten
        obtain ⟨X, hX⟩ : ∃ X, W1.alloc (.cells #[.string (t.extract b pos)] 9) = X := ⟨_, rfl⟩
        rw [hX] at hrow5 H5 hc5 hs5
        clear H1
        go_wp2_with (at_builtin; (try rw [hX]); refine wpList_appTx (base := w.heap.size + 1) (c := W1.heap.size) (C := 1) (lv := .slice A ls.length C) (ss := ls) (t := t.extract b pos) rfl (.tmp 16) (.tmp 21) rfl rfl rfl hrow5 hc5 hlen5 hs5 ?_; rintro v6 w6 hown6 hgrow6 ⟨A6, C6, rfl⟩; have H6 : Hid (ClK w t (pos + 1) (pos + 1) (.slice A6 (ls.length + 1) C6) (ls ++ [t.extract b pos]) w6) := H5.out.app hown6 hgrow6 (by omega); clear hown6 hgrow6)
        have hx : (ls ++ [t.extract b pos]).length = ls.length + 1 := by simp
        go_roundw
        case rel => exact ⟨pos + 1, pos + 1, A6, C6, ls ++ [t.extract b pos], by rw [hx], by go_num, by omega, by omega, HN.out, by rw [hx]; exact H6.out⟩
        case measure =>
          have hmu2 : w6.iterPos w.heap.size = pos + 1 := by simp [World.iterPos, H6.out.it]
          rw [hmu.out, hmu2]
          omega
      · obtain ⟨zr, wd, hnext, hbd, hz, hw1, hwd, hfree⟩ : ∃ (zr : Int) (wd : Nat), (∀ ty, (Instr.next (.pointer (some ⟨w.heap.size, 0, none⟩)) true ty).run Tryd.prog wr = .ok (.tuple #[.bool true, .int .i64 pos, .int .i32 zr]) (wr.iterAt w.heap.size t (pos + wd))) ∧ (-2147483648 ≤ zr ∧ zr ≤ 2147483647) ∧ (zr == 10) = false ∧ 1 ≤ wd ∧ pos + wd ≤ t.size ∧ ∀ (j : Nat) (hj : j < t.size), pos ≤ j → j < pos + wd → t[j]'hj ≠ 10 := by
          by_cases hx : (t[pos]'hp).toNat < 128
          · refine ⟨((t[pos]'hp).toNat : Int), 1, fun ty => Lib.run_next_ascii_at (P := Tryd.prog) wr w.heap.size t pos ty HI.out.it hp hx, by omega, ?_, Nat.le_refl _, by omega, fun j hj h1 h2 => ?_⟩
            · rw [beq_eq_false_iff_ne]
              intro e
              refine hten (UInt8.toNat_inj.1 ?_)
              show _ = 10
              omega
            · obtain rfl : j = pos := by omega
              exact hten
          · have hd := decode_high t pos hp (by omega)
            have hl := Lib.rune_le t pos
            have hb := decode_body t pos hp (by omega)
            refine ⟨((Utf8.decode t pos).1 : Int), _, fun ty => Lib.run_next_any_at wr w.heap.size t pos ty HI.out.it hp, by omega, ?_, hd.2, hb.1, fun j hj h1 h2 e => ?_⟩
            · rw [beq_eq_false_iff_ne]
              omega
            · have := hb.2 j hj h1 h2
              rw [e] at this
              exact absurd this (by decide)
        have HN : Hid (PcAt 10 t b (pos + wd) ls) := HP.out.over wd hwd hfree
        have H1 : Hid (ClK w t (pos + wd) b (.slice A ls.length C) ls (wr.iterAt w.heap.size t (pos + wd))) := HI.out.next _ (by omega)
        clear HI hten hfree
        generalize wr.iterAt w.heap.size t (pos + wd) = W1 at hnext H1
        go_wp2
        go_roundw
        case rel => exact ⟨pos + wd, b, A, C, ls, rfl, rfl, by omega, hwd, HN.out, H1.out⟩
        case measure =>
          have hmu2 : W1.iterPos w.heap.size = pos + wd := by simp [World.iterPos, H1.out.it]
          rw [hmu.out, hmu2]
          omega
    · obtain rfl : pos = t.size := by omega
      have hnext : ∀ ty, (Instr.next (.pointer (some ⟨w.heap.size, 0, none⟩)) true ty).run Tryd.prog wr = _ := fun ty => Lib.run_next_end_at (P := Tryd.prog) wr w.heap.size t t.size ty HI.out.it hp
      have HE : Hid (pcB 10 t = ls ++ [t.extract b t.size]) := HP.out.fin
      have hb1 : (b : Int) ≤ (t.size : Int) := by omega
      go_wp2_with fail
      have HR : Hid (∀ n, (wr.drewN n).ownsRow w.heap.size 9 1 (.slice A ls.length C) ls.length (ls.map Value.string) ∧ Below w.heap.size w (wr.drewN n)) := fun n => ⟨ownTx_down (ownTx_below HI.out.row (below_drewN (Below.refl _ _) n)) (by omega), below_drewN HI.out.bel n⟩
      go_quiet (fail)
      go_wp2
      refine bodyPost_ret (v := .tuple #[.slice A ls.length C, .string (t.extract b t.size)]) (by simp [results, Tryd.results27, go_sem]; try rfl) rfl ?_
      exact ⟨A, C, ls, _, HE.out, rfl, (HR.out _).1, (HR.out _).2, hlen⟩
end Go.Proofs.YtcdmnodhkgiaaaaDoor
