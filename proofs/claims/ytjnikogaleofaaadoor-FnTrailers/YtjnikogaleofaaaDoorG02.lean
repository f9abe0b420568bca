/- Texts of ours put together: SrcNew. -/
import Derived.Test.YtjnikogaleofaaaDoorG01
namespace Go.Proofs.YtjnikogaleofaaaDoor
open Go.ChangeShapes Go.WideShapes Go.ChangeAt Go.RowKit
/-- The bytes that a slice leads to. -/
def BytesAt (w : World) (a : Option Addr) (len : Nat) (zs : List Int) : Prop := 0 < len → ∃ b off, a = some ⟨b, off, none⟩ ∧ ∀ i, i < len → w.cell? ⟨b, off + i, none⟩ = some (.int .u8 (zs[i]?.getD 0))
theorem srcAt_new (w : World) (t : Nat) (a : Option Addr) (len cap : Nat) (zs : List Int) (mix : Int) (hl : len ≤ 1048576) (hr : BytesAt w a len zs) :
    SrcAt w.heap.size (w.alloc (.cells #[.slice a len cap, .int .i64 0, .int .u64 mix, .int .i64 0] t)) a len cap zs 0 mix 0 := by
  refine ⟨by simp [go_sem], by simp [go_sem], by simp [go_sem], by simp [go_sem], fun o => by simp [go_sem], by omega, by omega, hl, by omega, by omega, fun g => ?_⟩
  obtain ⟨b, off, e, hc⟩ := hr (by omega)
  refine ⟨b, off, e, ?_, fun i hi => ?_⟩
  · have := cell_lt (hc 0 (by omega))
    omega
  · have hk : Keep w.heap.size w (w.alloc (.cells #[.slice a len cap, .int .i64 0, .int .u64 mix, .int .i64 0] t)) := (Keep.refl _ _).alloc _
    exact hk.cell (hc i hi) (by have := cell_lt (hc i hi); omega)
theorem srcAt_mix {B : Nat} {w : World} {a : Option Addr} {len cap : Nat} {zs : List Int} {at_ mix size : Int} (h : SrcAt B w a len cap zs at_ mix size) (mix' : Int) :
    SrcAt B (w.setCell ⟨B, 2, none⟩ (.int .u64 mix')).drew a len cap zs at_ mix' size ∧ Keep B w (w.setCell ⟨B, 2, none⟩ (.int .u64 mix')).drew := by
  have hk : Keep B w (w.setCell ⟨B, 2, none⟩ (.int .u64 mix')).drew := ((Keep.refl B w).setCell 2 _).drew
  have c0 := h.c0
  have c1 := h.c1
  have c2 := h.c2
  have c3 := h.c3
  have fz := h.fz
  refine ⟨⟨by simp [go_sem, c0], by simp [go_sem, c1], by simp [go_sem, c2], by simp [go_sem, c3], fun o => by simp [fz], h.at0, h.at1, h.len1, h.size0, h.size1, fun g => ?_⟩, hk⟩
  obtain ⟨b, off, e, hB, hc⟩ := h.row g
  exact ⟨b, off, e, hB, fun i hi => hk.cell (hc i hi) (by omega)⟩
theorem srcAt_size {B : Nat} {w : World} {a : Option Addr} {len cap : Nat} {zs : List Int} {at_ mix size : Int} (h : SrcAt B w a len cap zs at_ mix size) (size' : Int) (h0 : 0 ≤ size') (h1 : size' ≤ 12) :
    SrcAt B (w.setCell ⟨B, 3, none⟩ (.int .i64 size')) a len cap zs at_ mix size' ∧ Keep B w (w.setCell ⟨B, 3, none⟩ (.int .i64 size')) := by
  have hk : Keep B w (w.setCell ⟨B, 3, none⟩ (.int .i64 size')) := (Keep.refl B w).setCell 3 _
  have c0 := h.c0
  have c1 := h.c1
  have c2 := h.c2
  have c3 := h.c3
  have fz := h.fz
  refine ⟨⟨by simp [go_sem, c0], by simp [go_sem, c1], by simp [go_sem, c2], by simp [go_sem, c3], fun o => by simp [fz], h.at0, h.at1, h.len1, h0, h1, fun g => ?_⟩, hk⟩
  obtain ⟨b, off, e, hB, hc⟩ := h.row g
  exact ⟨b, off, e, hB, fun i hi => hk.cell (hc i hi) (by omega)⟩
set_option maxHeartbeats 1000000 in
theorem source_any (a : Option Addr) (len cap : Nat) (zs : List Int) (w : World) (hl : len ≤ 1048576) (hr : BytesAt w a len zs) :
    Calls Tryd.prog 9 #[.slice a len cap] w fun e w' => e = .returned (.pointer (some ⟨w.heap.size, 0, none⟩)) ∧ IsSrc w.heap.size w' ∧ Below w.heap.size w w' := by
  have HR : Hid (BytesAt w a len zs) := hr
  clear hr
  have h3 := fun W v v' => twice W w.heap.size 3 v v'
  go_enter Tryd.func9, Tryd.ntmps9
  go_wp2
  go_loopw [4] (fun i wr => ∃ k : Nat, k ≤ len ∧ k ≤ 64 ∧ i = .int .i64 k ∧ ∃ mix, SrcAt w.heap.size wr a len cap zs 0 mix 0 ∧ Keep w.heap.size w wr) (fun i _ => 64 - (intOf i).toNat)
  case atStart => exact ⟨0, Nat.zero_le _, by omega, rfl, _, srcAt_new w _ a len cap zs _ hl HR.out, (Keep.refl _ _).alloc _⟩
  case round =>
    obtain ⟨k, hk, hk2, rfl, mix, hS, hK⟩ := hrel
    have c2 := hS.c2
    have c3 := hS.c3
    have fz := hS.fz
    have HS : Hid (SrcAt w.heap.size wr a len cap zs 0 mix 0 ∧ Keep w.heap.size w wr) := ⟨hS, hK⟩
    by_cases hlt : k < len ∧ k < 64
    · obtain ⟨hlt1, hlt2⟩ := hlt
      obtain ⟨b, off, rfl, hB, hc⟩ := hS.row (by omega)
      have hck := hc k hlt1
      clear hS hK hc
      go_wp2
      go_region
      go_wp2
      go_roundw
      case rel => exact ⟨k + 1, by omega, by omega, by go_num, _, (srcAt_mix HS.out.1 _).1, HS.out.2.trans (srcAt_mix HS.out.1 _).2⟩
      case measure => simp [intOf]; omega
    · clear hS hK
      have hl' : (len : Int) ≤ 1048576 := by omega
      by_cases h1 : k < len
      · have h2 : (64 : Int) ≤ (k : Int) := by omega
        have h1' : (k : Int) < (len : Int) := by omega
        go_wp2
        all_goals
          go_ret
          exact ⟨rfl, ⟨_, _, _, _, _, _, _, (srcAt_size HS.out.1 _ (by omega) (by omega)).1⟩, (HS.out.2.trans (srcAt_size HS.out.1 _ (by omega) (by omega)).2).below (Nat.le_refl _) (Nat.le_refl _)⟩
      · have h1' : (len : Int) ≤ (k : Int) := by omega
        go_wp2
        all_goals
          go_ret
          exact ⟨rfl, ⟨_, _, _, _, _, _, _, (srcAt_size HS.out.1 _ (by omega) (by omega)).1⟩, (HS.out.2.trans (srcAt_size HS.out.1 _ (by omega) (by omega)).2).below (Nat.le_refl _) (Nat.le_refl _)⟩
end Go.Proofs.YtjnikogaleofaaaDoor
