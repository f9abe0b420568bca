/- Contracts of the laws' helpers for lists of strings: eqStringS tells true of two lists with the same texts, markText tells a text of a number, markStringS writes these texts into a list and heldStringS finds them there. -/
import Derived.Test.YtkhnobipjckkiaaKeep
import Derived.Test.YtkhnobipjckkiaaRows
import Derived.Test.YtkhnobipjckkiaaRet
import Derived.WalkKit
import Derived.ProofKit
import Derived.OpenShut
import Derived.ShutString
import Derived.ChangeOld
import Derived.Below
import Derived.WalkLawsBesides
import Derived.WalkSpells
import Derived.Deep.Light
import Derived.Handy
import Derived.Test.YtkhnobipjckkiaaMarkT
import Derived.Deep.QuietTactic
import Derived.BigQuiet
import Derived.Deep.RegionHeld3
import Derived.Laws.BytesArg
namespace Go.Proofs.Ytkhnobipjckkiaa
open Go.ChangeShapes Go.WideShapes Go.ChangeAt Go.RowKit
/-- A list of strings that lies in block g from n₀ on, or is empty. -/
structure SRow (W : World) (n₀ g : Nat) (ad : Option Addr) (T : List ByteArray) : Prop where
  at_ : 0 < T.length → ad = some ⟨g, 0, none⟩
  base : 0 < T.length → n₀ ≤ g
  cell : ∀ i, i < T.length → W.cell? ⟨g, i, none⟩ = some (.string (T[i]?.getD ⟨#[]⟩))
  fz : 0 < T.length → ∀ o, W.frozen? ⟨g, o, none⟩ = false
theorem SRow.keep {W W' : World} {n₀ g B : Nat} {ad : Option Addr} {T : List ByteArray} (h : SRow W n₀ g ad T) (hk : Keep B W W') (hB : 0 < T.length → g ≠ B) : SRow W' n₀ g ad T :=
  ⟨h.at_, h.base, fun i hi => hk.cell (h.cell i hi) (hB (by omega)), fun g0 o => (hk.frozen (cell_lt (h.cell 0 g0)) o (hB g0)).trans (h.fz g0 o)⟩
theorem SRow.below {W W' : World} {n₀ g : Nat} {ad : Option Addr} {T : List ByteArray} (h : SRow W n₀ g ad T) (hb : Below W.heap.size W W') : SRow W' n₀ g ad T :=
  h.keep (Keep.of_below (B := g + 1) hb) (fun _ => by omega)
theorem SRow.of_owns {W : World} {n₀ : Nat} {v : Value} {T : List ByteArray} (h : W.ownsRow n₀ 9 1 v T.length (T.map Value.string)) : ∃ g ad cap, v = .slice ad T.length cap ∧ SRow W n₀ g ad T := by
  rcases h.2 with ⟨rfl, e⟩ | ⟨g, cap, cur, rfl, hb, hgb, _, _, _, htk⟩
  · exact ⟨0, none, 0, by rw [e], ⟨fun h => by omega, fun h => by omega, fun i hi => by omega, fun h => by omega⟩⟩
  · refine ⟨g, _, cap, rfl, ⟨fun _ => rfl, fun _ => hb, fun i hi => ?_, fun _ o => by simp [World.frozen?, hgb]⟩⟩
    have h1 : (cur.toList.take (T.length * 1))[i]? = (T.map Value.string)[i]? := by rw [htk]
    rw [List.getElem?_take_of_lt (by omega)] at h1
    simp [World.cell?, hgb, List.getElem?_eq_getElem hi] at h1 ⊢
    rw [h1]
set_option maxHeartbeats 1000000 in
theorem eqStrings_same (ad ad' : Option Addr) (cap cap' g g' n₀ n₁ : Nat) (T : List ByteArray) (w : World) (hT : T.length ≤ 40001) (h : SRow w n₀ g ad T) (h' : SRow w n₁ g' ad' T) :
    Calls Try.prog 26 #[.slice ad T.length cap, .slice ad' T.length cap'] w fun e w' => e = .returned (.bool true) ∧ ∃ q, w' = w.drewN q := by
  have HT : Hid (SRow w n₀ g ad T ∧ SRow w n₁ g' ad' T) := ⟨h, h'⟩
  clear h h'
  go_enter Try.func26, Try.ntmps26
  go_wp2
  go_loopw [5] (fun i wr => ∃ k : Nat, k ≤ T.length ∧ i = .int .i64 k ∧ ∃ q, wr = w.drewN q) (fun i _ => T.length - (intOf i).toNat)
  case atStart => exact ⟨0, Nat.zero_le _, rfl, 0, rfl⟩
  case round =>
    obtain ⟨k, hk, rfl, q, hq⟩ := hrel
    subst hq
    by_cases hlt : k < T.length
    · have hlt' : (k : Int) < (T.length : Int) := by omega
      have e1 := HT.out.1.at_ (by omega)
      have e2 := HT.out.2.at_ (by omega)
      have k1 := HT.out.1.cell k hlt
      have k2 := HT.out.2.cell k hlt
      subst e1 e2
      go_wp2_with fail
      go_quiet (fail)
      go_wp2
      go_roundw
      case rel => exact ⟨k + 1, by omega, by go_num, _, rfl⟩
      case measure => simp [intOf]; omega
    · have hge : (T.length : Int) ≤ (k : Int) := by omega
      go_wp2
      go_ret
      exact ⟨rfl, _, rfl⟩
set_option maxHeartbeats 1000000 in
theorem markStrings_any (ad : Option Addr) (cap g n₀ k0 : Nat) (T : List ByteArray) (w : World) (hT : T.length ≤ 40001) (hk0 : 0 < k0) (hk1 : k0 + T.length ≤ 99999) (h : SRow w n₀ g ad T) :
    Calls Try.prog 27 #[.slice ad T.length cap, .int .i64 k0] w fun e w' => e = .returned (.int .i64 ((k0 + T.length : Nat) : Int)) ∧ (∀ i, i < T.length → w'.cell? ⟨g, i, none⟩ = some (.string (mt (k0 + i)))) ∧ ∀ B, (0 < T.length → B = g) → Keep B w w' := by
  have HT : Hid (SRow w n₀ g ad T) := h
  clear h
  go_enter Try.func27, Try.ntmps27
  go_wp2
  go_loopw [1, 5] (fun kv i wr => ∃ k : Nat, k ≤ T.length ∧ i = .int .i64 k ∧ kv = .int .i64 ((k0 + k : Nat) : Int) ∧ (∀ i, i < k → wr.cell? ⟨g, i, none⟩ = some (.string (mt (k0 + i)))) ∧ (∀ i, i < T.length → (wr.cell? ⟨g, i, none⟩).isSome = true) ∧ (0 < T.length → ∀ o, wr.frozen? ⟨g, o, none⟩ = false) ∧ ∀ B, (0 < T.length → B = g) → Keep B w wr) (fun _ i _ => T.length - (intOf i).toNat)
  case atStart => exact ⟨0, Nat.zero_le _, rfl, by simp, fun i hi => by omega, fun i hi => by rw [HT.out.cell i hi]; rfl, HT.out.fz, fun _ _ => Keep.refl _ _⟩
  case round =>
    obtain ⟨k, hk, rfl, rfl, hm, hsome, hfz, hK⟩ := hrel
    have HK : Hid ((∀ i, i < k → wr.cell? ⟨g, i, none⟩ = some (.string (mt (k0 + i)))) ∧ (∀ i, i < T.length → (wr.cell? ⟨g, i, none⟩).isSome = true) ∧ (0 < T.length → ∀ o, wr.frozen? ⟨g, o, none⟩ = false) ∧ ∀ B, (0 < T.length → B = g) → Keep B w wr) := ⟨hm, hsome, hfz, hK⟩
    clear hm hsome hfz hK
    by_cases hlt : k < T.length
    · have hlt' : (k : Int) < (T.length : Int) := by omega
      have e1 := HT.out.at_ (by omega)
      subst e1
      go_wp2_with fail
      refine (markText_any (k0 + k) _ (by omega) (by omega)).mono ?_
      rintro e w3 ⟨rfl, hb3⟩
      obtain ⟨m1, m2, m3, m4⟩ := HK.out
      obtain ⟨u, hu⟩ := Option.isSome_iff_exists.1 (m2 k hlt)
      have hgl : g < wr.heap.size := cell_lt hu
      have ku : w3.cell? ⟨g, k, none⟩ = some u := (hb3.cell (p := ⟨g, k, none⟩) hgl).trans hu
      have zu : ∀ o, w3.frozen? ⟨g, o, none⟩ = false := fun o => (hb3.frozen (p := ⟨g, o, none⟩) hgl).trans (m3 (by omega) o)
      have HM : Hid ((∀ i, i < k → w3.cell? ⟨g, i, none⟩ = some (.string (mt (k0 + i)))) ∧ (∀ i, i < T.length → (w3.cell? ⟨g, i, none⟩).isSome = true) ∧ Keep g w w3) := ⟨fun i hi => (hb3.cell (p := ⟨g, i, none⟩) hgl).trans (m1 i hi), fun i hi => by rw [hb3.cell (p := ⟨g, i, none⟩) hgl]; exact m2 i hi, (m4 g (fun _ => rfl)).trans (Keep.of_below hb3)⟩
      clear m1 m2 m3 m4 HK hb3 hu hgl
      go_wp2
      go_roundw
      case rel =>
        refine ⟨k + 1, by omega, by go_num, by first | go_num | (congr 1; omega), fun i hi => ?_, fun i hi => ?_, fun _ o => by rw [World.frozen?_setCell]; exact zu o, fun B hB => ?_⟩
        · by_cases e : i = k
          · subst e
            exact World.cell?_setCell_same' _ _ _ (by rw [ku]; rfl)
          · rw [World.cell?_setCell_other _ _ _ _ (by simp <;> omega)]
            exact HM.out.1 i (by omega)
        · by_cases e : i = k
          · subst e
            rw [World.cell?_setCell_same' _ _ _ (by rw [ku]; rfl)]
            rfl
          · rw [World.cell?_setCell_other _ _ _ _ (by simp <;> omega)]
            exact HM.out.2.1 i hi
        · obtain rfl : B = g := hB (by omega)
          exact HM.out.2.2.setCell k _
      case measure => simp [intOf]; omega
    · have hge : (T.length : Int) ≤ (k : Int) := by omega
      obtain rfl : k = T.length := by omega
      go_wp2
      go_ret
      exact ⟨rfl, HK.out.1, HK.out.2.2.2⟩
set_option maxHeartbeats 1000000 in
theorem heldStrings_any (ad : Option Addr) (cap g k0 n : Nat) (w : World) (hn : n ≤ 40001) (hk0 : 0 < k0) (hk1 : k0 + n ≤ 99999) (hat : 0 < n → ad = some ⟨g, 0, none⟩) (hc : ∀ i, i < n → w.cell? ⟨g, i, none⟩ = some (.string (mt (k0 + i)))) :
    Calls Try.prog 28 #[.slice ad n cap, .int .i64 k0] w fun e w' => e = .returned (.int .i64 ((k0 + n : Nat) : Int)) ∧ Below w.heap.size w w' := by
  have HT : Hid ((0 < n → ad = some ⟨g, 0, none⟩) ∧ ∀ i, i < n → w.cell? ⟨g, i, none⟩ = some (.string (mt (k0 + i)))) := ⟨hat, hc⟩
  clear hat hc
  go_enter Try.func28, Try.ntmps28
  go_wp2
  go_loopw [1, 5] (fun kv i wr => ∃ k : Nat, k ≤ n ∧ i = .int .i64 k ∧ kv = .int .i64 ((k0 + k : Nat) : Int) ∧ Below w.heap.size w wr) (fun _ i _ => n - (intOf i).toNat)
  case atStart => exact ⟨0, Nat.zero_le _, rfl, by simp, Below.refl _ _⟩
  case round =>
    obtain ⟨k, hk, rfl, rfl, hb⟩ := hrel
    by_cases hlt : k < n
    · have hlt' : (k : Int) < (n : Int) := by omega
      have e1 := HT.out.1 (by omega)
      subst e1
      have hgl : g < w.heap.size := cell_lt (HT.out.2 k hlt)
      have ku : wr.cell? ⟨g, k, none⟩ = some (.string (mt (k0 + k))) := (hb.cell (p := ⟨g, k, none⟩) hgl).trans (HT.out.2 k hlt)
      have hgr : g < wr.heap.size := by have := hb.size; omega
      have HB : Hid (Below w.heap.size w wr) := hb
      clear hb
      go_wp2_with fail
      go_region_held3 (fun w' => w'.cell? ⟨g, k, none⟩ = some (.string (mt (k0 + k)))) (go_keep)
        (first | (go_at_call 58; refine (markText_any (k0 + k) _ (by omega) (by omega)).mono ?_; rintro e w3 ⟨rfl, hb3⟩; have ku3 := (hb3.cell (p := ⟨g, k, none⟩) hgr).trans (show wr.drew.cell? ⟨g, k, none⟩ = _ from ku)))
      go_wp2
      go_roundw
      case rel => exact ⟨k + 1, by omega, by go_num, by first | go_num | (congr 1; omega), HB.out.drew.trans (hb3.mono (show w.heap.size ≤ wr.heap.size from HB.out.size))⟩
      case measure => simp [intOf]; omega
    · have hge : (n : Int) ≤ (k : Int) := by omega
      obtain rfl : k = n := by omega
      have HB : Hid (Below w.heap.size w wr) := hb
      clear hb
      go_wp2
      go_ret
      exact ⟨rfl, HB.out⟩
end Go.Proofs.Ytkhnobipjckkiaa
