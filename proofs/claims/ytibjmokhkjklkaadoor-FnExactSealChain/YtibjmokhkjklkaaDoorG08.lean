/- Texts of ours put together: ScN. -/
import Derived.Test.YtibjmokhkjklkaaDoorG05
import Derived.Test.YtibjmokhkjklkaaDoorG00
import Derived.Deep.RegionHeld3
import Derived.StringKeys
namespace Go.Proofs.YtibjmokhkjklkaaDoor
open Go.ChangeShapes Go.WideShapes Go.ChangeAt Go.RowKit
open Go.Maps (Keyed)
/-- How an element of the map reads: as it is. -/
def rdV (v : Value) : Option (DataW Value × List MemPlace) := some (.held v, [])
theorem strK : Keyed Tryd.prog 9 := Maps.string_keyed Tryd.underlying9
theorem strKey {s : ByteArray} (h : s.size ≤ 1048576) : keyOf Tryd.prog 9 (.string s) = some (.string s.data.toList) := WideMaps.keyOf_string_mk Tryd.underlying9 (by unfold maxLen; omega)
theorem run_makeV (w : World) : (Instr.makeMap 86 none).run Tryd.prog w = .ok (.map (some w.heap.size)) (w.alloc (.map #[] 0)) := by
  simp [Instr.makeMap, Result.andThen]
/-- What the scribe's map holds. -/
def kindsD (B : Nat) : DataW Value := ((((DataW.map []).put (.string [112, 97, 114, 116, 110, 101, 114]) (.held (.func (.func 48) #[.pointer (some ⟨B, 0, none⟩)] #[]))).put (.string [99, 114, 111, 115, 115]) (.held (.func (.func 49) #[.pointer (some ⟨B, 0, none⟩)] #[]))).put (.string [116, 97, 107, 101]) (.held (.func (.func 50) #[.pointer (some ⟨B, 0, none⟩)] #[]))).put (.string [110, 101, 120, 116]) (.held (.func (.func 51) #[.pointer (some ⟨B, 0, none⟩)] #[]))
/-- Behind the digits: the map. -/
def scR (M : Nat) (_ : Nat) : Value := .map (some M)
set_option maxRecDepth 100000 in
set_option maxHeartbeats 4000000 in
theorem newScribe_any (w : World) : Calls Tryd.prog 38 #[] w fun e w' => e = .returned (.pointer (some ⟨w.heap.size, 0, none⟩)) ∧ w'.rowIs w.heap.size 88 21 (digF 0 0 0 (.map none) (scR (w.heap.size + 1))) ∧ w'.ownsMap Tryd.prog 9 rdV (w.heap.size + 1) 4 (kindsD w.heap.size) ∧ Below w.heap.size w w' := by
  have hmf : ∀ (fn : Fn) (first cap : Array Value) (w : World), (Instr.makeFunc fn first cap).run Tryd.prog w = .ok (.func fn first cap) w := fun _ _ _ _ => rfl
  have hmm := run_makeV
  obtain ⟨W0, hW0⟩ : ∃ W0, (w.alloc (.cells #[.int .u32 0, .int .i32 0, .int .u32 0, .int .u8 0, .int .u8 0, .int .u8 0, .int .u8 0, .int .u8 0, .int .u8 0, .int .u8 0, .int .u8 0, .int .u8 0, .int .u8 0, .int .u8 0, .int .u8 0, .int .u8 0, .int .u8 0, .int .u8 0, .int .u8 0, .map none, .map none] 88)).alloc (.map #[] 0) = W0 := ⟨_, rfl⟩
  have hr0 := (World.rowIs_alloc w #[.int .u32 0, .int .i32 0, .int .u32 0, .int .u8 0, .int .u8 0, .int .u8 0, .int .u8 0, .int .u8 0, .int .u8 0, .int .u8 0, .int .u8 0, .int .u8 0, .int .u8 0, .int .u8 0, .int .u8 0, .int .u8 0, .int .u8 0, .int .u8 0, .int .u8 0, .map none, .map none] 88 (digF 0 0 0 (.map none) fun _ => .map none) (fun i hi => by
    have hi' : i < 21 := hi
    match i, hi' with
    | 0, _ => rfl
    | 1, _ => rfl
    | 2, _ => rfl
    | 3, _ => rfl
    | 4, _ => rfl
    | 5, _ => rfl
    | 6, _ => rfl
    | 7, _ => rfl
    | 8, _ => rfl
    | 9, _ => rfl
    | 10, _ => rfl
    | 11, _ => rfl
    | 12, _ => rfl
    | 13, _ => rfl
    | 14, _ => rfl
    | 15, _ => rfl
    | 16, _ => rfl
    | 17, _ => rfl
    | 18, _ => rfl
    | 19, _ => rfl
    | 20, _ => rfl
    | n + 21, h => exact absurd h (by omega))).alloc (.map #[] 0)
  have ho0 : ((w.alloc (.cells #[.int .u32 0, .int .i32 0, .int .u32 0, .int .u8 0, .int .u8 0, .int .u8 0, .int .u8 0, .int .u8 0, .int .u8 0, .int .u8 0, .int .u8 0, .int .u8 0, .int .u8 0, .int .u8 0, .int .u8 0, .int .u8 0, .int .u8 0, .int .u8 0, .int .u8 0, .map none, .map none] 88)).alloc (.map #[] 0)).ownsMap Tryd.prog 9 rdV (w.alloc (.cells #[.int .u32 0, .int .i32 0, .int .u32 0, .int .u8 0, .int .u8 0, .int .u8 0, .int .u8 0, .int .u8 0, .int .u8 0, .int .u8 0, .int .u8 0, .int .u8 0, .int .u8 0, .int .u8 0, .int .u8 0, .int .u8 0, .int .u8 0, .int .u8 0, .int .u8 0, .map none, .map none] 88)).heap.size 0 (.map []) := World.ownsMap_made (w.alloc (.cells #[.int .u32 0, .int .i32 0, .int .u32 0, .int .u8 0, .int .u8 0, .int .u8 0, .int .u8 0, .int .u8 0, .int .u8 0, .int .u8 0, .int .u8 0, .int .u8 0, .int .u8 0, .int .u8 0, .int .u8 0, .int .u8 0, .int .u8 0, .int .u8 0, .int .u8 0, .map none, .map none] 88)) Tryd.prog 9 rdV
  have hb0 : Below w.heap.size w W0 := by rw [← hW0]; exact ((Below.refl _ _).alloc (Nat.le_refl _) _).alloc (by simp) _
  rw [show (w.alloc (.cells #[.int .u32 0, .int .i32 0, .int .u32 0, .int .u8 0, .int .u8 0, .int .u8 0, .int .u8 0, .int .u8 0, .int .u8 0, .int .u8 0, .int .u8 0, .int .u8 0, .int .u8 0, .int .u8 0, .int .u8 0, .int .u8 0, .int .u8 0, .int .u8 0, .int .u8 0, .map none, .map none] 88)).heap.size = w.heap.size + 1 by simp] at ho0
  rw [hW0] at hr0 ho0
  have H0 : Hid (W0.rowIs w.heap.size 88 21 (digF 0 0 0 (.map none) fun _ => .map none) ∧ Below w.heap.size w W0) := ⟨hr0, hb0⟩
  clear hr0 hb0
  obtain ⟨w1, run1, ho1, hg1⟩ := World.ownsMap.update ho0 strK Tryd.underlying86 (by unfold maxLen; omega) (strKey (s := ⟨#[112, 97, 114, 116, 110, 101, 114]⟩) (by decide)) (val := (.func (.func 48) #[.pointer (some ⟨w.heap.size, 0, none⟩)] #[])) rfl
  obtain ⟨w2, run2, ho2, hg2⟩ := World.ownsMap.update ho1 strK Tryd.underlying86 (by unfold maxLen; omega) (strKey (s := ⟨#[99, 114, 111, 115, 115]⟩) (by decide)) (val := (.func (.func 49) #[.pointer (some ⟨w.heap.size, 0, none⟩)] #[])) rfl
  obtain ⟨w3, run3, ho3, hg3⟩ := World.ownsMap.update ho2 strK Tryd.underlying86 (by unfold maxLen; omega) (strKey (s := ⟨#[116, 97, 107, 101]⟩) (by decide)) (val := (.func (.func 50) #[.pointer (some ⟨w.heap.size, 0, none⟩)] #[])) rfl
  obtain ⟨w4, run4, ho4, hg4⟩ := World.ownsMap.update ho3 strK Tryd.underlying86 (by unfold maxLen; omega) (strKey (s := ⟨#[110, 101, 120, 116]⟩) (by decide)) (val := (.func (.func 51) #[.pointer (some ⟨w.heap.size, 0, none⟩)] #[])) rfl
  have hg : W0.grownBy w4 (some (w.heap.size + 1)) := gby_trans (gby_trans (gby_trans hg1 hg2) hg3) hg4
  have h4 : w4.rowIs w.heap.size 88 21 (digF 0 0 0 (.map none) fun _ => .map none) := H0.out.1.of_block (hg.block _ H0.out.1.lt (by simp))
  have c20 : w4.cell? ⟨w.heap.size, 20, none⟩ = some (.map none) := h4.cell (i := 20) (by omega)
  have f20 := h4.frozen 20
  have HE : Hid ((w4.setCell ⟨w.heap.size, 20, none⟩ (.map (some (w.heap.size + 1)))).rowIs w.heap.size 88 21 (digF 0 0 0 (.map none) (scR (w.heap.size + 1))) ∧ (w4.setCell ⟨w.heap.size, 20, none⟩ (.map (some (w.heap.size + 1)))).ownsMap Tryd.prog 9 rdV (w.heap.size + 1) 4 (kindsD w.heap.size) ∧ Below w.heap.size w (w4.setCell ⟨w.heap.size, 20, none⟩ (.map (some (w.heap.size + 1))))) := by
    refine ⟨(h4.set 20 _).congr (fun i hi => ?_), ?_, ?_⟩
    · unfold digF scR
      repeat' split
      all_goals first | rfl | omega
    · obtain ⟨es, c, e, r⟩ := ho4
      exact ⟨es, c, (setNeD _ (by omega)).trans e, r⟩
    · refine Below.setCell (H0.out.2.trans ⟨hg.os, hg.tape, hg.output, hg.size, fun k hk => hg.block k ?_ (by simp; omega)⟩) (Nat.le_refl _) _
      have := H0.out.2.size
      omega
  clear ho0 ho1 ho2 ho3 ho4 hg1 hg2 hg3 hg4 hg h4
  go_enter Tryd.func38, Tryd.ntmps38
  go_wp2
  go_ret
  exact ⟨rfl, HE.out⟩
end Go.Proofs.YtibjmokhkjklkaaDoor
