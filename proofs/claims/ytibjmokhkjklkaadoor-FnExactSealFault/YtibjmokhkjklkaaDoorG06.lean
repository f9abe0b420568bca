/- Texts of ours put together: OnI, ShBuildH. -/
import Derived.Test.YtibjmokhkjklkaaDoorG05
import Derived.Defers
import Derived.Laws.Pointers
import Derived.Laws.LoneSync
import Derived.RegionTactic
import Derived.RegionCalls
import Derived.ChangeAlike
import Derived.Shelf.Strings.Builder1
import Derived.Test.YtibjmokhkjklkaaDoorG01
namespace Go.Proofs.YtibjmokhkjklkaaDoor
open Go.ChangeShapes Go.WideShapes Go.ChangeAt Go.RowKit
open Go.MuLone
/-- The digits' record: not made yet, or made. -/
inductive Dgt (mp : Bool) (T nn : Nat) (r : Nat → Value) (B : Nat) (W : World) : Prop
  | new : W.rowIs B T nn (digF 0 0 0 (.map none) r) → Dgt mp T nn r B W
  | made (m : Nat) : m ≠ B → W.rowIs B T nn (digF 1 0 16 (.map (some m)) r) → (mp = true → W.ownsMap Tryd.prog 21 rdU m 16 (mapU (dgs 16))) → Dgt mp T nn r B W
/-- Made. -/
def DgM (mp : Bool) (T nn : Nat) (r : Nat → Value) (B : Nat) (W : World) : Prop := ∃ m, m ≠ B ∧ W.rowIs B T nn (digF 1 0 16 (.map (some m)) r) ∧ (mp = true → W.ownsMap Tryd.prog 21 rdU m 16 (mapU (dgs 16)))
theorem store_defer (a : Addr) (x : Value) (u : FrameMode) (w : World) (hc : w.cell? a = some x) (hz : w.frozen? a = false) :
    CallsD Tryd.prog 76 #[.pointer (some a), .bool true] u w fun e u' w' => u' = u ∧ (e = .returned (.tuple #[]) ∧ w' = w.drew.setCell a (.int .u32 1)) := by
  have hc' : w.drew.cell? a = some x := by go_simp
  have hz' : w.drew.frozen? a = false := by go_simp
  have hst := run_call_store (P := Tryd.prog) Tryd.func79 (by kernel_rfl) (by kernel_rfl) (by kernel_rfl) (by kernel_rfl) (k := .u32) (y := 1) hc' hz'
  go_enter_d Tryd.func76, Tryd.ntmps76
  go_wp2
  go_region_calls
  all_goals (go_end0; exact ⟨rfl, rfl⟩)
theorem load_any (a : Addr) (d : Int) (w : World) (h : w.cell? a = some (.int .u32 d)) : Calls Tryd.prog 71 #[.pointer (some a)] w fun e w' => e = .returned (.bool (d != 0)) ∧ w = w' := by
  have hl := run_call_load (P := Tryd.prog) Tryd.func73 (by kernel_rfl) (by kernel_rfl) (by kernel_rfl) .u32 (by kernel_rfl) h
  go_enter Tryd.func71, Tryd.ntmps71
  go_wp2
  go_ret
  exact ⟨rfl, rfl⟩
set_option maxRecDepth 100000 in
set_option maxHeartbeats 4000000 in
theorem slow_any {mp : Bool} {T nn : Nat} {r : Nat → Value} (hnn : 20 ≤ nn) (B : Nat) (w : World) (h : w.rowIs B T nn (digF 0 0 0 (.map none) r)) :
    Calls Tryd.prog 72 #[.pointer (some ⟨B, 0, none⟩), .func (.func 67) #[.pointer (some ⟨B, 0, none⟩)] #[]] w fun e w' => e = .returned (.tuple #[]) ∧ DgM mp T nn r B w' ∧ w.grownBy w' (some B) := by
  have x1 : w.cell? ⟨B, 1, none⟩ = some (.int .i32 0) := h.cell (i := 1) (by omega)
  have fz := h.frozen
  obtain ⟨W1, hW1⟩ : ∃ W1, w.setCell ⟨B, 1, none⟩ (.int .i32 1) = W1 := ⟨_, rfl⟩
  have h1 : W1.rowIs B T nn (digF 0 1 0 (.map none) r) := by rw [← hW1]; exact (h.set 1 _).congr (fun i _ => digF_lock i)
  have H1 : Hid (W1.rowIs B T nn (digF 0 1 0 (.map none) r) ∧ w.grownBy W1 (some B)) := ⟨h1, by rw [← hW1]; exact gby_set w B 1 _⟩
  have y0 : W1.cell? ⟨B, 0, none⟩ = some (.int .u32 0) := h1.cell (i := 0) (by omega)
  have hnot : ∀ (x : Bool) (w : World), (Op.unary .not (.bool x)).run Tryd.prog w = .ok (.bool (!x)) w := fun _ _ => rfl
  clear h h1
  go_enter_defers Tryd.func72, Tryd.ntmps72
  go_wp2_with (first | (go_at_call 74; refine (lock_free muLib ⟨B, 1, none⟩ _ x1 (fz 1)).mono ?_; rintro e w' ⟨rfl, rfl⟩; try rw [hW1]))
  refine (load_any ⟨B, 0, none⟩ 0 _ y0).mono ?_
  rintro e w' ⟨rfl, rfl⟩
  go_wp2_with (first | (go_at_call 67; refine (fill_any hnn B 0 1 _ H1.out.1).mono ?_; rintro e w2 ⟨rfl, hr2, hm2, hg2⟩))
  have hlt := H1.out.1.lt
  have H2 : Hid (w2.rowIs B T nn (digF 0 1 16 (.map (some W1.heap.size)) r) ∧ w2.ownsMap Tryd.prog 21 rdU W1.heap.size 16 (mapU (dgs 16)) ∧ w.grownBy w2 (some B) ∧ W1.heap.size ≠ B) := ⟨hr2, hm2, gby_trans H1.out.2 hg2, by omega⟩
  clear hr2 hm2 hg2 x1 fz y0 hnot hlt hW1
  go_wp2
  refine leaves_cons (f := 76) (args := #[.pointer (some ⟨B, 0, none⟩), .bool true]) (by simp) (by simp [go_sem]) ?_
  refine (store_defer ⟨B, 0, none⟩ (.int .u32 0) .returning _ (H2.out.1.cell (i := 0) (by omega)) (H2.out.1.frozen 0)).mono ?_
  rintro e u' w3 ⟨rfl, rfl, rfl⟩
  have h3 : (w2.drew.setCell ⟨B, 0, none⟩ (.int .u32 1)).rowIs B T nn (digF 1 1 16 (.map (some W1.heap.size)) r) := (H2.out.1.drew.set 0 _).congr (fun i _ => digF_done i)
  refine leaves_cons (f := 75) (args := #[.pointer (some ⟨B, 1, none⟩)]) (by simp [settle]) (by simp [go_sem]) ?_
  refine (unlock_deferred muLib ⟨B, 1, none⟩ _ _ (h3.cell (i := 1) (by omega)) (h3.frozen 1)).mono ?_
  rintro e u' w4 ⟨rfl, rfl, rfl⟩
  have h4 : ((w2.drew.setCell ⟨B, 0, none⟩ (.int .u32 1)).setCell ⟨B, 1, none⟩ (.int .i32 0)).rowIs B T nn (digF 1 0 16 (.map (some W1.heap.size)) r) := (h3.set 1 _).congr (fun i _ => digF_lock i)
  have hm4 : ((w2.drew.setCell ⟨B, 0, none⟩ (.int .u32 1)).setCell ⟨B, 1, none⟩ (.int .i32 0)).ownsMap Tryd.prog 21 rdU W1.heap.size 16 (mapU (dgs 16)) := omap_of (W := w2) H2.out.2.1 ((setNeD _ H2.out.2.2.2).trans (setNeD _ H2.out.2.2.2))
  have hg4 : w.grownBy ((w2.drew.setCell ⟨B, 0, none⟩ (.int .u32 1)).setCell ⟨B, 1, none⟩ (.int .i32 0)) (some B) := gby_trans (gby_trans (b := w2.drew) ⟨H2.out.2.2.1.os, H2.out.2.2.1.tape, H2.out.2.2.1.output, H2.out.2.2.1.size, H2.out.2.2.1.block⟩ (gby_set w2.drew B 0 _)) (gby_set _ B 1 _)
  have hE : DgM mp T nn r B ((w2.drew.setCell ⟨B, 0, none⟩ (.int .u32 1)).setCell ⟨B, 1, none⟩ (.int .i32 0)) := ⟨_, H2.out.2.2.2, h4, fun _ => hm4⟩
  clear h3 h4 hm4
  simp [Leaves, settle, results, Tryd.results72]
  exact ⟨hE, hg4⟩
set_option maxRecDepth 100000 in
set_option maxHeartbeats 4000000 in
/-- Do, whether done or not: the digits are made. -/
theorem do_any {mp : Bool} {T nn : Nat} {r : Nat → Value} (hnn : 20 ≤ nn) (B : Nat) (w : World) (h : Dgt mp T nn r B w) :
    Calls Tryd.prog 66 #[.pointer (some ⟨B, 0, none⟩), .func (.func 67) #[.pointer (some ⟨B, 0, none⟩)] #[]] w fun e w' => e = .returned (.tuple #[]) ∧ DgM mp T nn r B w' ∧ w.grownBy w' (some B) := by
  have hnot : ∀ (x : Bool) (w : World), (Op.unary .not (.bool x)).run Tryd.prog w = .ok (.bool (!x)) w := fun _ _ => rfl
  rcases h with h | ⟨m, hne, h, hm⟩
  · have y0 : w.cell? ⟨B, 0, none⟩ = some (.int .u32 0) := h.cell (i := 0) (by omega)
    have Q := slow_any (mp := mp) hnn B w h
    clear h
    go_enter Tryd.func66, Tryd.ntmps66
    go_wp2_with (first | (go_at_call 71; refine (load_any ⟨B, 0, none⟩ 0 _ y0).mono ?_; rintro e w' ⟨rfl, rfl⟩) | (go_at_call 72; refine Q.mono ?_; rintro e w2 ⟨rfl, hE, hg⟩; have H2 : Hid (DgM mp T nn r B w2 ∧ w.grownBy w2 (some B)) := ⟨hE, hg⟩; clear hE hg))
    go_end0
    exact ⟨rfl, H2.out⟩
  · have y0 : w.cell? ⟨B, 0, none⟩ = some (.int .u32 1) := h.cell (i := 0) (by omega)
    have H2 : Hid (DgM mp T nn r B w ∧ w.grownBy w (some B)) := ⟨⟨m, hne, h, hm⟩, ⟨rfl, rfl, rfl, Nat.le_refl _, fun _ _ _ => rfl⟩⟩
    clear h hm
    go_enter Tryd.func66, Tryd.ntmps66
    go_wp2_with (first | (go_at_call 71; refine (load_any ⟨B, 0, none⟩ 1 _ y0).mono ?_; rintro e w' ⟨rfl, rfl⟩))
    go_end0
    exact ⟨rfl, H2.out⟩
set_option maxRecDepth 100000 in
set_option maxHeartbeats 4000000 in
theorem letter_any {mp : Bool} {T nn : Nat} {r : Nat → Value} (hnn : 20 ≤ nn) (B n : Nat) (hn : n < 16) (w : World) (h : Dgt mp T nn r B w) :
    Calls Tryd.prog 70 #[.pointer (some ⟨B, 0, none⟩), .int .u8 (n : Int)] w fun e w' => e = .returned (.int .u8 (hexD n)) ∧ DgM mp T nn r B w' ∧ w.grownBy w' (some B) := by
  have Q := do_any (mp := mp) hnn B w h
  have hmf : ∀ (fn : Fn) (first cap : Array Value) (w : World), (Instr.makeFunc fn first cap).run Tryd.prog w = .ok (.func fn first cap) w := fun _ _ _ _ => rfl
  clear h
  go_enter Tryd.func70, Tryd.ntmps70
  go_wp2_with fail
  refine Q.mono ?_
  rintro e w2 ⟨rfl, hE, hg⟩
  have H2 : Hid (DgM mp T nn r B w2 ∧ w.grownBy w2 (some B)) := ⟨hE, hg⟩
  obtain ⟨m, _, hr, _⟩ := hE
  have hc := hr.cell (i := 3 + n) (by omega)
  rw [digF_let hn hn] at hc
  have hn' : (n : Int) < 16 := by omega
  clear hr hg hmf
  go_wp2
  go_ret
  exact ⟨rfl, H2.out⟩
end Go.Proofs.YtibjmokhkjklkaaDoor
namespace Go.Proofs.YtibjmokhkjklkaaDoor
open Go.Shelf Go.RowKit
def renB : Go.Shelf.Ren := ⟨fun | 167 => 62 | 169 => 58 | 240 => 63 | 276 => 68 | n => n, fun | 0 => 0 | 3 => 3 | 4 => 4 | 5 => 5 | 9 => 9 | 20 => 20 | 37 => 60 | 70 => 95 | 72 => 97 | 75 => 100 | 164 => 112 | 80 => 103 | 127 => 110 | n => n, fun | n => n⟩
theorem laysWB : Go.Proofs.Lays.n167 Tryd.prog renB := {
  mixed := by kernel_rfl
  f167 := Tryd.func62.trans (congrArg some (by kernel_rfl))
  f240 := Tryd.func63.trans (congrArg some (by kernel_rfl))
  f276 := Tryd.func68.trans (congrArg some (by kernel_rfl))
  t0 := Tryd.underlying0
  a0 := Tryd.isAgg0
  z0 := Tryd.sizeOf0
  v0 := Tryd.zeroValue0
  t4 := Tryd.underlying4
  a4 := Tryd.isAgg4
  z4 := Tryd.sizeOf4
  v4 := Tryd.zeroValue4
  t5 := Tryd.underlying5
  a5 := Tryd.isAgg5
  z5 := Tryd.sizeOf5
  v5 := Tryd.zeroValue5
  t9 := Tryd.underlying9
  a9 := Tryd.isAgg9
  z9 := Tryd.sizeOf9
  v9 := Tryd.zeroValue9
  t20 := Tryd.underlying20
  a20 := Tryd.isAgg20
  z20 := Tryd.sizeOf20
  v20 := Tryd.zeroValue20
  t37 := Tryd.underlying60
  a37 := Tryd.isAgg60
  z37 := Tryd.sizeOf60
  v37 := Tryd.zeroValue60
  t70 := Tryd.underlying95
  a70 := Tryd.isAgg95
  z70 := Tryd.sizeOf95
  v70 := Tryd.zeroValue95
  t72 := Tryd.underlying97
  a72 := Tryd.isAgg97
  z72 := Tryd.sizeOf97
  v72 := Tryd.zeroValue97
  t75 := Tryd.underlying100
  a75 := Tryd.isAgg100
  z75 := Tryd.sizeOf100
  v75 := Tryd.zeroValue100
  t164 := Tryd.underlying112
  a164 := Tryd.isAgg112
  z164 := Tryd.sizeOf112
  v164 := Tryd.zeroValue112 }
theorem laysSt : Go.Proofs.Lays.n169 Tryd.prog renB := {
  mixed := by kernel_rfl
  f169 := Tryd.func58.trans (congrArg some (by kernel_rfl))
  t0 := Tryd.underlying0
  a0 := Tryd.isAgg0
  z0 := Tryd.sizeOf0
  v0 := Tryd.zeroValue0
  t3 := Tryd.underlying3
  a3 := Tryd.isAgg3
  z3 := Tryd.sizeOf3
  v3 := Tryd.zeroValue3
  t9 := Tryd.underlying9
  a9 := Tryd.isAgg9
  z9 := Tryd.sizeOf9
  v9 := Tryd.zeroValue9
  t37 := Tryd.underlying60
  a37 := Tryd.isAgg60
  z37 := Tryd.sizeOf60
  v37 := Tryd.zeroValue60
  t70 := Tryd.underlying95
  a70 := Tryd.isAgg95
  z70 := Tryd.sizeOf95
  v70 := Tryd.zeroValue95
  t72 := Tryd.underlying97
  a72 := Tryd.isAgg97
  z72 := Tryd.sizeOf97
  v72 := Tryd.zeroValue97
  t127 := Tryd.underlying110
  a127 := Tryd.isAgg110
  z127 := Tryd.sizeOf110
  v127 := Tryd.zeroValue110 }
theorem extraB : Builder.Extra Tryd.prog renB where
  sizeBuilder := by kernel_rfl
  liesBuilder := by kernel_rfl
  t5 := Tryd.underlying5
  a5 := Tryd.isAgg5
  z5 := Tryd.sizeOf5
  v5 := Tryd.zeroValue5
  infoByte := by kernel_rfl
  cellsByte := by kernel_rfl
  sizeByte := by kernel_rfl
  neB5 := by decide
theorem writeByte_any (B b : Nat) (bs : List Value) (c : Int) (w : World) (h : Lib.IsBuilder 97 5 B b bs w) (hlen : bs.length + 1 ≤ 140737488355328) (hBw : B ≤ w.heap.size) :
    Calls Tryd.prog 62 #[.pointer (some ⟨b, 0, none⟩), .int .u8 c] w fun e w' => e = .returned .nilIface ∧ (Lib.BuilderAt 97 5 B b (.pointer (some ⟨b, 0, none⟩)) (bs ++ [.int .u8 c]) w' ∧ Below B w w') := Any.Builder_WriteByte laysWB extraB B b bs c w h hlen hBw
theorem string_any (B b : Nat) (l : List UInt8) (w : World) (h : Lib.IsBuilder 97 5 B b (Lib.byteCells l) w) (hBw : B ≤ w.heap.size) :
    Calls Tryd.prog 58 #[.pointer (some ⟨b, 0, none⟩)] w fun e w' => e = .returned (.string ⟨l.toArray⟩) ∧ Below B w w' := Any.Builder_String_any laysSt extraB B b l w h hBw
end Go.Proofs.YtibjmokhkjklkaaDoor
