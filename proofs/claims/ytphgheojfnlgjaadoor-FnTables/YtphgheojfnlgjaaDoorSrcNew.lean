/- Contract of the model's l01Source: over a list of at most 1048576 bytes it makes a source in new memory and writes nothing that was there. -/
import Derived.Test.YtphgheojfnlgjaaDoorKeep
import Derived.Test.YtphgheojfnlgjaaDoorRows
import Derived.Test.YtphgheojfnlgjaaDoorRet
import Derived.WalkKit
import Derived.ProofKit
import Derived.OpenShut
import Derived.ShutString
import Derived.ChangeOld
import Derived.Below
import Derived.WalkLawsBesides
import Derived.WalkSpells
import Derived.Deep.Light
import Derived.Handy
import Derived.Deep.QuietTactic
import Derived.BigQuiet
import Derived.BigRegion
import Derived.WalkSmall
namespace Go.Proofs.YtphgheojfnlgjaaDoor
open Go.ChangeShapes Go.WideShapes Go.ChangeAt Go.RowKit
/-- Block B is a source, which draws from at most 1048576 bytes. -/
structure SrcAt (B : Nat) (w : World) (a : Option Addr) (len cap : Nat) (zs : List Int) (at_ mix size : Int) : Prop where
  c0 : w.cell? ⟨B, 0, none⟩ = some (.slice a len cap)
  c1 : w.cell? ⟨B, 1, none⟩ = some (.int .i64 at_)
  c2 : w.cell? ⟨B, 2, none⟩ = some (.int .u64 mix)
  c3 : w.cell? ⟨B, 3, none⟩ = some (.int .i64 size)
  fz : ∀ o, w.frozen? ⟨B, o, none⟩ = false
  at0 : 0 ≤ at_
  at1 : at_ ≤ len
  len1 : len ≤ 1048576
  size0 : 0 ≤ size
  size1 : size ≤ 12
  row : at_ < len → ∃ b off, a = some ⟨b, off, none⟩ ∧ b < B ∧ ∀ i, i < len → w.cell? ⟨b, off + i, none⟩ = some (.int .u8 (zs[i]?.getD 0))
def IsSrc (B : Nat) (w : World) : Prop := ∃ a len cap zs at_ mix size, SrcAt B w a len cap zs at_ mix size
theorem IsSrc.lt {B : Nat} {w : World} (h : IsSrc B w) : B < w.heap.size := by
  obtain ⟨a, len, cap, zs, at_, mix, size, h⟩ := h
  exact cell_lt h.c0
/-- What keeps all that lay there up to the source keeps it. -/
theorem IsSrc.below {B : Nat} {w w' : World} (h : IsSrc B w) (hb : Below (B + 1) w w') : IsSrc B w' := by
  have hl : B < B + 1 := by omega
  obtain ⟨a, len, cap, zs, at_, mix, size, h⟩ := h
  refine ⟨a, len, cap, zs, at_, mix, size, ⟨(hb.cell (p := ⟨B, 0, none⟩) hl).trans h.c0, (hb.cell (p := ⟨B, 1, none⟩) hl).trans h.c1, (hb.cell (p := ⟨B, 2, none⟩) hl).trans h.c2, (hb.cell (p := ⟨B, 3, none⟩) hl).trans h.c3, fun o => (hb.frozen (p := ⟨B, o, none⟩) hl).trans (h.fz o), h.at0, h.at1, h.len1, h.size0, h.size1, fun g => ?_⟩⟩
  obtain ⟨b, off, e, hB, hc⟩ := h.row g
  exact ⟨b, off, e, hB, fun i hi => (hb.cell (p := ⟨b, off + i, none⟩) (show b < B + 1 by omega)).trans (hc i hi)⟩
theorem srcAt_step {B : Nat} {w : World} {a : Option Addr} {len cap : Nat} {zs : List Int} {at_ mix size : Int} (h : SrcAt B w a len cap zs at_ mix size) (k : Nat) (at' mix' : Int) (h0 : at_ ≤ at') (h1 : at' ≤ len) :
    SrcAt B (((w.drewN k).setCell ⟨B, 1, none⟩ (.int .i64 at')).setCell ⟨B, 2, none⟩ (.int .u64 mix')).drew.drew.drew a len cap zs at' mix' size ∧ Keep B w (((w.drewN k).setCell ⟨B, 1, none⟩ (.int .i64 at')).setCell ⟨B, 2, none⟩ (.int .u64 mix')).drew.drew.drew := by
  have hk : Keep B w (((w.drewN k).setCell ⟨B, 1, none⟩ (.int .i64 at')).setCell ⟨B, 2, none⟩ (.int .u64 mix')).drew.drew.drew := ((((((Keep.refl B w).drewN k).setCell 1 _).setCell 2 _).drew).drew).drew
  have c0 := h.c0
  have c1 := h.c1
  have c2 := h.c2
  have c3 := h.c3
  have fz := h.fz
  refine ⟨⟨by simp [go_sem, c0], by simp [go_sem, c1], by simp [go_sem, c2], by simp [go_sem, c3], fun o => by simp [fz], Int.le_trans h.at0 h0, h1, h.len1, h.size0, h.size1, fun g => ?_⟩, hk⟩
  by_cases g' : at_ < len
  · obtain ⟨b, off, e, hB, hc⟩ := h.row g'
    exact ⟨b, off, e, hB, fun i hi => hk.cell (hc i hi) (by omega)⟩
  · have := h.at1
    exact absurd g (by omega)
theorem srcAt_step2 {B : Nat} {w : World} {a : Option Addr} {len cap : Nat} {zs : List Int} {at_ mix size : Int} (h : SrcAt B w a len cap zs at_ mix size) (k : Nat) (mix' : Int) :
    SrcAt B ((w.drewN k).setCell ⟨B, 2, none⟩ (.int .u64 mix')).drew.drew a len cap zs at_ mix' size ∧ Keep B w ((w.drewN k).setCell ⟨B, 2, none⟩ (.int .u64 mix')).drew.drew := by
  have hk : Keep B w ((w.drewN k).setCell ⟨B, 2, none⟩ (.int .u64 mix')).drew.drew := ((((Keep.refl B w).drewN k).setCell 2 _).drew).drew
  have c0 := h.c0
  have c1 := h.c1
  have c2 := h.c2
  have c3 := h.c3
  have fz := h.fz
  refine ⟨⟨by simp [go_sem, c0], by simp [go_sem, c1], by simp [go_sem, c2], by simp [go_sem, c3], fun o => by simp [fz], h.at0, h.at1, h.len1, h.size0, h.size1, fun g => ?_⟩, hk⟩
  obtain ⟨b, off, e, hB, hc⟩ := h.row g
  exact ⟨b, off, e, hB, fun i hi => hk.cell (hc i hi) (by omega)⟩
theorem u64_bd (x : Int) : 0 ≤ IntKind.u64.wrap x ∧ IntKind.u64.wrap x < 18446744073709551616 := by
  have : IntKind.u64.wrap x = x % 18446744073709551616 := by simp [IntKind.wrap, IntKind.bits, IntKind.signed]
  rw [this]
  omega
theorem rem_bd (x most : Int) (hm : 1 < most) (hm2 : most ≤ 9223372036854775807) : 0 ≤ wrap64 ((IntKind.u64.wrap x).tmod most) ∧ wrap64 ((IntKind.u64.wrap x).tmod most) < most := by
  obtain ⟨h0, h1⟩ := u64_bd x
  rw [Int.tmod_eq_emod_of_nonneg h0]
  have a0 := Int.emod_nonneg (IntKind.u64.wrap x) (show most ≠ 0 by omega)
  have a1 := Int.emod_lt_of_pos (IntKind.u64.wrap x) (show 0 < most by omega)
  generalize (IntKind.u64.wrap x) % most = r at *
  unfold wrap64
  omega
/-- What a draw leaves. -/
def Drawn (B : Nat) (w : World) (most : Int) (e : Ending) (w' : World) : Prop := ∃ v : Int, e = .returned (.int .i64 v) ∧ 0 ≤ v ∧ v < most ∧ IsSrc B w' ∧ Keep B w w'
set_option maxHeartbeats 1000000 in
theorem n_row (B b off len cap : Nat) (zs : List Int) (at_ mix size most : Int) (w : World) (hm : 1 < most) (hm2 : most ≤ 9223372036854775807) (hS : SrcAt B w (some ⟨b, off, none⟩) len cap zs at_ mix size) (hlt : at_ < len)
    (hc : w.cell? ⟨b, off + at_.toNat, none⟩ = some (.int .u8 (zs[at_.toNat]?.getD 0))) :
    Calls Tryd.prog 12 #[.pointer (some ⟨B, 0, none⟩), .int .i64 most] w (Drawn B w most) := by
  have c0 := hS.c0
  have c1 := hS.c1
  have c2 := hS.c2
  have hf := hS.fz
  have h0 := hS.at0
  have hlen := hS.len1
  have HS : Hid (SrcAt B w (some ⟨b, off, none⟩) len cap zs at_ mix size) := hS
  clear hS
  have hss := fun W v v' => twice W B 2 v v'
  go_enter Tryd.func12, Tryd.ntmps12
  go_wp2
  go_quiet (fail)
  go_wp2
  go_quiet (fail)
  go_wp2
  go_region
  go_wp2
  go_region
  go_wp2
  go_region
  go_wp2
  go_ret
  obtain ⟨s1, s2⟩ := srcAt_step HS.out _ (at_ + 1) _ (by omega) (by omega)
  exact ⟨_, rfl, (rem_bd _ most hm hm2).1, (rem_bd _ most hm hm2).2, ⟨_, _, _, _, _, _, _, s1⟩, s2⟩
set_option maxHeartbeats 1000000 in
theorem n_end (B len cap : Nat) (a : Option Addr) (zs : List Int) (at_ mix size most : Int) (w : World) (hm : 1 < most) (hm2 : most ≤ 9223372036854775807) (hS : SrcAt B w a len cap zs at_ mix size) (hge : (len : Int) ≤ at_) :
    Calls Tryd.prog 12 #[.pointer (some ⟨B, 0, none⟩), .int .i64 most] w (Drawn B w most) := by
  have c0 := hS.c0
  have c1 := hS.c1
  have c2 := hS.c2
  have hf := hS.fz
  have hlen := hS.len1
  have HS : Hid (SrcAt B w a len cap zs at_ mix size) := hS
  clear hS
  have hss := fun W v v' => twice W B 2 v v'
  go_enter Tryd.func12, Tryd.ntmps12
  go_wp2
  go_quiet (fail)
  go_wp2
  go_region
  go_wp2
  go_region
  go_wp2
  go_region
  go_wp2
  go_ret
  obtain ⟨s1, s2⟩ := srcAt_step2 HS.out _ _
  exact ⟨_, rfl, (rem_bd _ most hm hm2).1, (rem_bd _ most hm hm2).2, ⟨_, _, _, _, _, _, _, s1⟩, s2⟩
/-- A draw below a most of two or more. -/
theorem n_any (B : Nat) (most : Int) (w : World) (hm : 1 < most) (hm2 : most ≤ 9223372036854775807) (hS : IsSrc B w) :
    Calls Tryd.prog 12 #[.pointer (some ⟨B, 0, none⟩), .int .i64 most] w (Drawn B w most) := by
  obtain ⟨a, len, cap, zs, at_, mix, size, h⟩ := hS
  by_cases hlt : at_ < len
  · obtain ⟨b, off, rfl, hB, hc⟩ := h.row hlt
    have h0 := h.at0
    exact n_row B b off len cap zs at_ mix size most w hm hm2 h hlt (hc at_.toNat (by omega))
  · exact n_end B len cap a zs at_ mix size most w hm hm2 h (by omega)
set_option maxHeartbeats 400000 in
/-- A draw below a most of one or less is 0 and draws nothing. -/
theorem n_one (B : Nat) (most : Int) (w : World) (hm : most ≤ 1) :
    Calls Tryd.prog 12 #[.pointer (some ⟨B, 0, none⟩), .int .i64 most] w fun e w' => e = .returned (.int .i64 0) ∧ w' = w := by
  go_enter Tryd.func12, Tryd.ntmps12
  go_wp2
  go_ret
  exact ⟨rfl, rfl⟩
set_option maxHeartbeats 400000 in
theorem one_any (B : Nat) (most : Int) (w : World) (hm : 1 < most) (hm2 : most ≤ 9223372036854775807) (hS : IsSrc B w) :
    Calls Tryd.prog 14 #[.pointer (some ⟨B, 0, none⟩), .int .i64 most] w fun e w' => ∃ v : Bool, e = .returned (.bool v) ∧ IsSrc B w' ∧ Keep B w w' := by
  have HS : Hid (IsSrc B w) := hS
  clear hS
  go_enter Tryd.func14, Tryd.ntmps14
  go_wp2_with fail
  refine (n_any B most _ hm hm2 HS.out).mono ?_
  rintro e w' ⟨v, rfl, h0, h1, h2, h3⟩
  have H2 : Hid (IsSrc B w' ∧ Keep B w w') := ⟨h2, h3⟩
  clear h2 h3
  go_wp2
  go_ret
  exact ⟨_, rfl, H2.out.1, H2.out.2⟩
end Go.Proofs.YtphgheojfnlgjaaDoor
namespace Go.Proofs.YtphgheojfnlgjaaDoor
open Go.ChangeShapes Go.WideShapes Go.ChangeAt Go.RowKit
/-- The bytes that a slice leads to. -/
def BytesAt (w : World) (a : Option Addr) (len : Nat) (zs : List Int) : Prop := 0 < len → ∃ b off, a = some ⟨b, off, none⟩ ∧ ∀ i, i < len → w.cell? ⟨b, off + i, none⟩ = some (.int .u8 (zs[i]?.getD 0))
theorem srcAt_new (w : World) (t : Nat) (a : Option Addr) (len cap : Nat) (zs : List Int) (mix : Int) (hl : len ≤ 1048576) (hr : BytesAt w a len zs) :
    SrcAt w.heap.size (w.alloc (.cells #[.slice a len cap, .int .i64 0, .int .u64 mix, .int .i64 0] t)) a len cap zs 0 mix 0 := by
  refine ⟨by simp [go_sem], by simp [go_sem], by simp [go_sem], by simp [go_sem], fun o => by simp [go_sem], by omega, by omega, hl, by omega, by omega, fun g => ?_⟩
  obtain ⟨b, off, e, hc⟩ := hr (by omega)
  refine ⟨b, off, e, ?_, fun i hi => ?_⟩
  · have := cell_lt (hc 0 (by omega))
    omega
  · have hk : Keep w.heap.size w (w.alloc (.cells #[.slice a len cap, .int .i64 0, .int .u64 mix, .int .i64 0] t)) := (Keep.refl _ _).alloc _
    exact hk.cell (hc i hi) (by have := cell_lt (hc i hi); omega)
theorem srcAt_mix {B : Nat} {w : World} {a : Option Addr} {len cap : Nat} {zs : List Int} {at_ mix size : Int} (h : SrcAt B w a len cap zs at_ mix size) (mix' : Int) :
    SrcAt B (w.setCell ⟨B, 2, none⟩ (.int .u64 mix')).drew a len cap zs at_ mix' size ∧ Keep B w (w.setCell ⟨B, 2, none⟩ (.int .u64 mix')).drew := by
  have hk : Keep B w (w.setCell ⟨B, 2, none⟩ (.int .u64 mix')).drew := ((Keep.refl B w).setCell 2 _).drew
  have c0 := h.c0
  have c1 := h.c1
  have c2 := h.c2
  have c3 := h.c3
  have fz := h.fz
  refine ⟨⟨by simp [go_sem, c0], by simp [go_sem, c1], by simp [go_sem, c2], by simp [go_sem, c3], fun o => by simp [fz], h.at0, h.at1, h.len1, h.size0, h.size1, fun g => ?_⟩, hk⟩
  obtain ⟨b, off, e, hB, hc⟩ := h.row g
  exact ⟨b, off, e, hB, fun i hi => hk.cell (hc i hi) (by omega)⟩
theorem srcAt_size {B : Nat} {w : World} {a : Option Addr} {len cap : Nat} {zs : List Int} {at_ mix size : Int} (h : SrcAt B w a len cap zs at_ mix size) (size' : Int) (h0 : 0 ≤ size') (h1 : size' ≤ 12) :
    SrcAt B (w.setCell ⟨B, 3, none⟩ (.int .i64 size')) a len cap zs at_ mix size' ∧ Keep B w (w.setCell ⟨B, 3, none⟩ (.int .i64 size')) := by
  have hk : Keep B w (w.setCell ⟨B, 3, none⟩ (.int .i64 size')) := (Keep.refl B w).setCell 3 _
  have c0 := h.c0
  have c1 := h.c1
  have c2 := h.c2
  have c3 := h.c3
  have fz := h.fz
  refine ⟨⟨by simp [go_sem, c0], by simp [go_sem, c1], by simp [go_sem, c2], by simp [go_sem, c3], fun o => by simp [fz], h.at0, h.at1, h.len1, h0, h1, fun g => ?_⟩, hk⟩
  obtain ⟨b, off, e, hB, hc⟩ := h.row g
  exact ⟨b, off, e, hB, fun i hi => hk.cell (hc i hi) (by omega)⟩
set_option maxHeartbeats 1000000 in
theorem source_any (a : Option Addr) (len cap : Nat) (zs : List Int) (w : World) (hl : len ≤ 1048576) (hr : BytesAt w a len zs) :
    Calls Tryd.prog 11 #[.slice a len cap] w fun e w' => e = .returned (.pointer (some ⟨w.heap.size, 0, none⟩)) ∧ IsSrc w.heap.size w' ∧ Below w.heap.size w w' := by
  have HR : Hid (BytesAt w a len zs) := hr
  clear hr
  have h3 := fun W v v' => twice W w.heap.size 3 v v'
  go_enter Tryd.func11, Tryd.ntmps11
  go_wp2
  go_loopw [4] (fun i wr => ∃ k : Nat, k ≤ len ∧ k ≤ 64 ∧ i = .int .i64 k ∧ ∃ mix, SrcAt w.heap.size wr a len cap zs 0 mix 0 ∧ Keep w.heap.size w wr) (fun i _ => 64 - (intOf i).toNat)
  case atStart => exact ⟨0, Nat.zero_le _, by omega, rfl, _, srcAt_new w _ a len cap zs _ hl HR.out, (Keep.refl _ _).alloc _⟩
  case round =>
    obtain ⟨k, hk, hk2, rfl, mix, hS, hK⟩ := hrel
    have c2 := hS.c2
    have c3 := hS.c3
    have fz := hS.fz
    have HS : Hid (SrcAt w.heap.size wr a len cap zs 0 mix 0 ∧ Keep w.heap.size w wr) := ⟨hS, hK⟩
    by_cases hlt : k < len ∧ k < 64
    · obtain ⟨hlt1, hlt2⟩ := hlt
      obtain ⟨b, off, rfl, hB, hc⟩ := hS.row (by omega)
      have hck := hc k hlt1
      clear hS hK hc
      go_wp2
      go_region
      go_wp2
      go_roundw
      case rel => exact ⟨k + 1, by omega, by omega, by go_num, _, (srcAt_mix HS.out.1 _).1, HS.out.2.trans (srcAt_mix HS.out.1 _).2⟩
      case measure => simp [intOf]; omega
    · clear hS hK
      have hl' : (len : Int) ≤ 1048576 := by omega
      by_cases h1 : k < len
      · have h2 : (64 : Int) ≤ (k : Int) := by omega
        have h1' : (k : Int) < (len : Int) := by omega
        go_wp2
        all_goals
          go_ret
          exact ⟨rfl, ⟨_, _, _, _, _, _, _, (srcAt_size HS.out.1 _ (by omega) (by omega)).1⟩, (HS.out.2.trans (srcAt_size HS.out.1 _ (by omega) (by omega)).2).below (Nat.le_refl _) (Nat.le_refl _)⟩
      · have h1' : (len : Int) ≤ (k : Int) := by omega
        go_wp2
        all_goals
          go_ret
          exact ⟨rfl, ⟨_, _, _, _, _, _, _, (srcAt_size HS.out.1 _ (by omega) (by omega)).1⟩, (HS.out.2.trans (srcAt_size HS.out.1 _ (by omega) (by omega)).2).below (Nat.le_refl _) (Nat.le_refl _)⟩
end Go.Proofs.YtphgheojfnlgjaaDoor
