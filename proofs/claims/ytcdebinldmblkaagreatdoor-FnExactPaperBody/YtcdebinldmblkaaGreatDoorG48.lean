/- Texts of ours put together: Marks, MarkE. -/
import Derived.Test.YtcdebinldmblkaaGreatDoorG00
import Derived.Test.YtcdebinldmblkaaGreatDoorG47
import Derived.Test.YtcdebinldmblkaaGreatDoorRows
import Derived.WalkKit
import Derived.ProofKit
import Derived.OpenShut
import Derived.ShutString
import Derived.ChangeOld
import Derived.Below
import Derived.WalkLawsBesides
import Derived.WalkSpells
import Derived.Deep.Light
import Derived.Handy
import Derived.Test.YtcdebinldmblkaaGreatDoorG46
import Derived.Deep.QuietTactic
import Derived.BigQuiet
import Derived.Deep.RegionHeld3
import Derived.Laws.BytesArg
import Derived.Test.YtcdebinldmblkaaGreatDoorG07
namespace Go.Proofs.YtcdebinldmblkaaGreatDoor
open Go.ChangeShapes Go.WideShapes Go.ChangeAt Go.RowKit
set_option maxHeartbeats 1000000 in
theorem eqStrings_same (ad ad' : Option Addr) (cap cap' g g' n₀ n₁ : Nat) (T : List ByteArray) (w : World) (hT : T.length ≤ 40001) (h : SRow w n₀ g ad T) (h' : SRow w n₁ g' ad' T) :
    Calls Tryz.prog 22 #[.slice ad T.length cap, .slice ad' T.length cap'] w fun e w' => e = .returned (.bool true) ∧ ∃ q, w' = w.drewN q := by
  have HT : Hid (SRow w n₀ g ad T ∧ SRow w n₁ g' ad' T) := ⟨h, h'⟩
  clear h h'
  go_enter Tryz.func22, Tryz.ntmps22
  go_wp2
  go_loopw [5] (fun i wr => ∃ k : Nat, k ≤ T.length ∧ i = .int .i64 k ∧ ∃ q, wr = w.drewN q) (fun i _ => T.length - (intOf i).toNat)
  case atStart => exact ⟨0, Nat.zero_le _, rfl, 0, rfl⟩
  case round =>
    obtain ⟨k, hk, rfl, q, hq⟩ := hrel
    subst hq
    by_cases hlt : k < T.length
    · have hlt' : (k : Int) < (T.length : Int) := by omega
      have e1 := HT.out.1.at_ (by omega)
      have e2 := HT.out.2.at_ (by omega)
      have k1 := HT.out.1.cell k hlt
      have k2 := HT.out.2.cell k hlt
      subst e1 e2
      go_wp2_with fail
      go_quiet (fail)
      go_wp2
      go_roundw
      case rel => exact ⟨k + 1, by omega, by go_num, _, rfl⟩
      case measure => simp [intOf]; omega
    · have hge : (T.length : Int) ≤ (k : Int) := by omega
      go_wp2
      go_ret
      exact ⟨rfl, _, rfl⟩
set_option maxHeartbeats 1000000 in
theorem markStrings_any (ad : Option Addr) (cap g n₀ k0 : Nat) (T : List ByteArray) (w : World) (hT : T.length ≤ 40001) (hk0 : 0 < k0) (hk1 : k0 + T.length ≤ 99999) (h : SRow w n₀ g ad T) :
    Calls Tryz.prog 24 #[.slice ad T.length cap, .int .i64 k0] w fun e w' => e = .returned (.int .i64 ((k0 + T.length : Nat) : Int)) ∧ (∀ i, i < T.length → w'.cell? ⟨g, i, none⟩ = some (.string (mt (k0 + i)))) ∧ ∀ B, (0 < T.length → B = g) → Keep B w w' := by
  have HT : Hid (SRow w n₀ g ad T) := h
  clear h
  go_enter Tryz.func24, Tryz.ntmps24
  go_wp2
  go_loopw [1, 5] (fun kv i wr => ∃ k : Nat, k ≤ T.length ∧ i = .int .i64 k ∧ kv = .int .i64 ((k0 + k : Nat) : Int) ∧ (∀ i, i < k → wr.cell? ⟨g, i, none⟩ = some (.string (mt (k0 + i)))) ∧ (∀ i, i < T.length → (wr.cell? ⟨g, i, none⟩).isSome = true) ∧ (0 < T.length → ∀ o, wr.frozen? ⟨g, o, none⟩ = false) ∧ ∀ B, (0 < T.length → B = g) → Keep B w wr) (fun _ i _ => T.length - (intOf i).toNat)
  case atStart => exact ⟨0, Nat.zero_le _, rfl, by simp, fun i hi => by omega, fun i hi => by rw [HT.out.cell i hi]; rfl, HT.out.fz, fun _ _ => Keep.refl _ _⟩
  case round =>
    obtain ⟨k, hk, rfl, rfl, hm, hsome, hfz, hK⟩ := hrel
    have HK : Hid ((∀ i, i < k → wr.cell? ⟨g, i, none⟩ = some (.string (mt (k0 + i)))) ∧ (∀ i, i < T.length → (wr.cell? ⟨g, i, none⟩).isSome = true) ∧ (0 < T.length → ∀ o, wr.frozen? ⟨g, o, none⟩ = false) ∧ ∀ B, (0 < T.length → B = g) → Keep B w wr) := ⟨hm, hsome, hfz, hK⟩
    clear hm hsome hfz hK
    by_cases hlt : k < T.length
    · have hlt' : (k : Int) < (T.length : Int) := by omega
      have e1 := HT.out.at_ (by omega)
      subst e1
      go_wp2_with fail
      refine (markText_any (k0 + k) _ (by omega) (by omega)).mono ?_
      rintro e w3 ⟨rfl, hb3⟩
      obtain ⟨m1, m2, m3, m4⟩ := HK.out
      obtain ⟨u, hu⟩ := Option.isSome_iff_exists.1 (m2 k hlt)
      have hgl : g < wr.heap.size := cell_lt hu
      have ku : w3.cell? ⟨g, k, none⟩ = some u := (hb3.cell (p := ⟨g, k, none⟩) hgl).trans hu
      have zu : ∀ o, w3.frozen? ⟨g, o, none⟩ = false := fun o => (hb3.frozen (p := ⟨g, o, none⟩) hgl).trans (m3 (by omega) o)
      have HM : Hid ((∀ i, i < k → w3.cell? ⟨g, i, none⟩ = some (.string (mt (k0 + i)))) ∧ (∀ i, i < T.length → (w3.cell? ⟨g, i, none⟩).isSome = true) ∧ Keep g w w3) := ⟨fun i hi => (hb3.cell (p := ⟨g, i, none⟩) hgl).trans (m1 i hi), fun i hi => by rw [hb3.cell (p := ⟨g, i, none⟩) hgl]; exact m2 i hi, (m4 g (fun _ => rfl)).trans (Keep.of_below hb3)⟩
      clear m1 m2 m3 m4 HK hb3 hu hgl
      go_wp2
      go_roundw
      case rel =>
        refine ⟨k + 1, by omega, by go_num, by first | go_num | (congr 1; omega), fun i hi => ?_, fun i hi => ?_, fun _ o => by rw [World.frozen?_setCell]; exact zu o, fun B hB => ?_⟩
        · by_cases e : i = k
          · subst e
            exact World.cell?_setCell_same' _ _ _ (by rw [ku]; rfl)
          · rw [World.cell?_setCell_other _ _ _ _ (by simp <;> omega)]
            exact HM.out.1 i (by omega)
        · by_cases e : i = k
          · subst e
            rw [World.cell?_setCell_same' _ _ _ (by rw [ku]; rfl)]
            rfl
          · rw [World.cell?_setCell_other _ _ _ _ (by simp <;> omega)]
            exact HM.out.2.1 i hi
        · obtain rfl : B = g := hB (by omega)
          exact HM.out.2.2.setCell k _
      case measure => simp [intOf]; omega
    · have hge : (T.length : Int) ≤ (k : Int) := by omega
      obtain rfl : k = T.length := by omega
      go_wp2
      go_ret
      exact ⟨rfl, HK.out.1, HK.out.2.2.2⟩
set_option maxHeartbeats 1000000 in
theorem heldStrings_any (ad : Option Addr) (cap g k0 n : Nat) (w : World) (hn : n ≤ 40001) (hk0 : 0 < k0) (hk1 : k0 + n ≤ 99999) (hat : 0 < n → ad = some ⟨g, 0, none⟩) (hc : ∀ i, i < n → w.cell? ⟨g, i, none⟩ = some (.string (mt (k0 + i)))) :
    Calls Tryz.prog 48 #[.slice ad n cap, .int .i64 k0] w fun e w' => e = .returned (.int .i64 ((k0 + n : Nat) : Int)) ∧ Below w.heap.size w w' := by
  have HT : Hid ((0 < n → ad = some ⟨g, 0, none⟩) ∧ ∀ i, i < n → w.cell? ⟨g, i, none⟩ = some (.string (mt (k0 + i)))) := ⟨hat, hc⟩
  clear hat hc
  go_enter Tryz.func48, Tryz.ntmps48
  go_wp2
  go_loopw [1, 5] (fun kv i wr => ∃ k : Nat, k ≤ n ∧ i = .int .i64 k ∧ kv = .int .i64 ((k0 + k : Nat) : Int) ∧ Below w.heap.size w wr) (fun _ i _ => n - (intOf i).toNat)
  case atStart => exact ⟨0, Nat.zero_le _, rfl, by simp, Below.refl _ _⟩
  case round =>
    obtain ⟨k, hk, rfl, rfl, hb⟩ := hrel
    by_cases hlt : k < n
    · have hlt' : (k : Int) < (n : Int) := by omega
      have e1 := HT.out.1 (by omega)
      subst e1
      have hgl : g < w.heap.size := cell_lt (HT.out.2 k hlt)
      have ku : wr.cell? ⟨g, k, none⟩ = some (.string (mt (k0 + k))) := (hb.cell (p := ⟨g, k, none⟩) hgl).trans (HT.out.2 k hlt)
      have hgr : g < wr.heap.size := by have := hb.size; omega
      have HB : Hid (Below w.heap.size w wr) := hb
      clear hb
      go_wp2_with fail
      go_region_held3 (fun w' => w'.cell? ⟨g, k, none⟩ = some (.string (mt (k0 + k)))) (go_keep)
        (first | (go_at_call 26; refine (markText_any (k0 + k) _ (by omega) (by omega)).mono ?_; rintro e w3 ⟨rfl, hb3⟩; have ku3 := (hb3.cell (p := ⟨g, k, none⟩) hgr).trans (show wr.drew.cell? ⟨g, k, none⟩ = _ from ku)))
      go_wp2
      go_roundw
      case rel => exact ⟨k + 1, by omega, by go_num, by first | go_num | (congr 1; omega), HB.out.drew.trans (hb3.mono (show w.heap.size ≤ wr.heap.size from HB.out.size))⟩
      case measure => simp [intOf]; omega
    · have hge : (n : Int) ≤ (k : Int) := by omega
      obtain rfl : k = n := by omega
      have HB : Hid (Below w.heap.size w wr) := hb
      clear hb
      go_wp2
      go_ret
      exact ⟨rfl, HB.out⟩
end Go.Proofs.YtcdebinldmblkaaGreatDoor
namespace Go.Proofs.YtcdebinldmblkaaGreatDoor
open Go.ChangeShapes Go.WideShapes Go.ChangeAt Go.RowKit
/-- How many parts stand ahead of an element. -/
def offE (es : List (List ByteArray)) (i : Nat) : Nat := ((es.take i).map List.length).sum
theorem offE_zero (es : List (List ByteArray)) : offE es 0 = 0 := by simp [offE]
theorem offE_succ {es : List (List ByteArray)} {i : Nat} {e : List ByteArray} (h : es[i]? = some e) : offE es (i + 1) = offE es i + e.length := by
  unfold offE
  rw [List.take_add_one, h]
  simp
theorem offE_le {es : List (List ByteArray)} (hX : BdX es) : ∀ i, i ≤ es.length → offE es i ≤ 4 * i := by
  intro i
  induction i with
  | zero => intro _; simp [offE]
  | succ i ih =>
    intro hi
    have hlt : i < es.length := by omega
    rw [offE_succ (List.getElem?_eq_getElem hlt)]
    have := ih (by omega)
    have := (hX es[i] (List.getElem_mem hlt)).1
    omega
theorem addr0 (b i : Nat) : (⟨b, 0, none⟩ : Addr).add i = ⟨b, i, none⟩ := by unfold Addr.add; split <;> simp_all
theorem Keep.grownBy {R : Nat} {W W' : World} (h : Keep R W W') : W.grownBy W' (some R) := ⟨h.os, h.tape, h.output, h.size, fun k hk hn => h.block k hk (fun e => hn (by rw [e]))⟩
theorem row_keepG {n₀ t k R : Nat} {W W' : World} {v : Value} {xs : List Value} (h : W.ownsRow n₀ t 1 v k xs) (hv : v.ownBlock ≠ some R) (hk : Keep R W W') : W'.ownsRow n₀ t 1 v k xs :=
  h.kept hk.grownBy (.inr hv)
/-- What is none of these rows lies as it lay. -/
def KeepV (vals : List Value) (w w' : World) : Prop := ∀ k, k < w.heap.size → (∀ x ∈ vals, x.ownBlock ≠ some k) → w'.heap[k]? = w.heap[k]?
/-- What is no row of texts lies as it lay. -/
def KeepT (w w' : World) : Prop := ∀ k, k < w.heap.size → (∀ c, w.heap[k]? ≠ some (.cells c 9 (0, 0))) → w'.heap[k]? = w.heap[k]?
/-- The elements' parts hold the marks from k0 on. -/
structure MkE (k0 : Nat) (W : World) (v : Value) (vals : List Value) (es : List (List ByteArray)) : Prop where
  len : vals.length = es.length
  at_ : ∃ A C, v = .slice A es.length C ∧ (0 < es.length → ∃ b, A = some ⟨b, 0, none⟩ ∧ ∀ (i : Nat) (u : Value), vals[i]? = some u → W.cell? ⟨b, i, none⟩ = some u)
  parts : ∀ (i : Nat) (u : Value) (e : List ByteArray), vals[i]? = some u → es[i]? = some e → ∃ g cap, u = .slice (some ⟨g, 0, none⟩) e.length cap ∧ ∀ j, j < e.length → W.cell? ⟨g, j, none⟩ = some (.string (mt (k0 + offE es i + j)))
theorem MkE.below {k0 : Nat} {W W' : World} {v : Value} {vals : List Value} {es : List (List ByteArray)} (h : MkE k0 W v vals es) (hb : Below W.heap.size W W') : MkE k0 W' v vals es := by
  obtain ⟨A, C, hv, hA⟩ := h.at_
  refine ⟨h.len, ⟨A, C, hv, fun h0 => ?_⟩, fun i u e hu he => ?_⟩
  · obtain ⟨b, hb1, hb2⟩ := hA h0
    exact ⟨b, hb1, fun i u hu => (hb.cell (p := ⟨b, i, none⟩) (cell_lt (hb2 i u hu))).trans (hb2 i u hu)⟩
  · obtain ⟨g, cap, e1, e2⟩ := h.parts i u e hu he
    exact ⟨g, cap, e1, fun j hj => (hb.cell (p := ⟨g, j, none⟩) (cell_lt (e2 j hj))).trans (e2 j hj)⟩
theorem OwnV.slice {n₀ : Nat} {W : World} {v : Value} {vals : List Value} {es : List (List ByteArray)} (h : OwnV n₀ W v vals es) : ∃ A C, v = .slice A es.length C ∧ (0 < es.length → ∃ b, A = some ⟨b, 0, none⟩ ∧ ∀ (i : Nat) (u : Value), vals[i]? = some u → W.cell? ⟨b, i, none⟩ = some u) := by
  have hr := h.row
  rcases hr.2 with ⟨rfl, h0⟩ | ⟨g, cap, cur, rfl, _⟩
  · exact ⟨none, 0, by rw [h0], fun hp => by omega⟩
  · refine ⟨_, cap, rfl, fun _ => ⟨g, rfl, fun i u hu => ?_⟩⟩
    have := hr.cells (g := g) rfl i u hu
    rwa [addr0] at this
set_option maxHeartbeats 2000000 in
theorem markV_any (v : Value) (vals : List Value) (es : List (List ByteArray)) (n₀ k0 : Nat) (w : World) (h : OwnV n₀ w v vals es) (hX : BdX es) (hl : es.length ≤ 10) (hn : n₀ ≤ w.heap.size) (hk0 : 0 < k0) (hk1 : k0 ≤ 99900) :
    Calls Tryz.prog 27 #[v, .int .i64 k0] w fun e w' => e = .returned (.int .i64 ((k0 + offE es es.length : Nat) : Int)) ∧ MkE k0 w' v vals es ∧ Below n₀ w w' ∧ KeepV vals w w' := by
  have HO : Hid (OwnV n₀ w v vals es ∧ BdX es) := ⟨h, hX⟩
  obtain ⟨A, C, rfl, _⟩ := h.slice
  clear h hX
  go_enter Tryz.func27, Tryz.ntmps27
  go_wp2
  go_loopw [1, 5] (fun kv i wr => ∃ m : Nat, m ≤ es.length ∧ i = .int .i64 m ∧ kv = .int .i64 ((k0 + offE es m : Nat) : Int) ∧ wr.ownsRow n₀ 75 1 (.slice A es.length C) es.length vals ∧ (∀ (i : Nat) (u : Value) (e : List ByteArray), vals[i]? = some u → es[i]? = some e → i < m → ∃ g cap, u = .slice (some ⟨g, 0, none⟩) e.length cap ∧ ∀ j, j < e.length → wr.cell? ⟨g, j, none⟩ = some (.string (mt (k0 + offE es i + j)))) ∧ (∀ (i : Nat) (u : Value) (e : List ByteArray), vals[i]? = some u → es[i]? = some e → m ≤ i → wr.ownsRow n₀ 9 1 u e.length (e.map Value.string)) ∧ Below n₀ w wr ∧ KeepV vals w wr) (fun _ i _ => es.length - (intOf i).toNat)
  case atStart => exact ⟨0, Nat.zero_le _, rfl, by simp [offE_zero], HO.out.1.row, fun i u e _ _ hi => by omega, fun i u e hu he _ => (HO.out.1.parts i u e hu he).1, Below.refl _ _, fun _ _ _ => rfl⟩
  case round =>
    obtain ⟨m, hm, rfl, rfl, hrow, hmk, hun, hb, hT⟩ := hrel
    have hof := offE_le HO.out.2 m hm
    by_cases hlt : m < es.length
    · have hlt' : (m : Int) < (es.length : Int) := by omega
      obtain ⟨e, he⟩ : ∃ e, es[m]? = some e := ⟨_, List.getElem?_eq_getElem hlt⟩
      obtain ⟨u, hu⟩ : ∃ u, vals[m]? = some u := ⟨_, List.getElem?_eq_getElem (by rw [HO.out.1.len]; exact hlt)⟩
      have he4 := (HO.out.2 e (List.mem_of_getElem? he)).1
      have hp := (HO.out.1.parts m u e hu he).2
      have hur := hun m u e hu he (Nat.le_refl _)
      obtain ⟨g, ad, cap, hue, S⟩ := SRow.of_owns hur
      have hueb : u.ownBlock = some g := by rw [hue, S.at_ hp]; rfl
      subst hue
      have had := S.at_ hp
      subst had
      obtain ⟨b, hA⟩ : ∃ b, A = some ⟨b, 0, none⟩ := by
        rcases hrow.2 with ⟨h1, h0⟩ | ⟨g, cap, cur, h1, _⟩
        · omega
        · simp at h1
          exact ⟨g, h1.1⟩
      subst hA
      have hc := hrow.cells (g := b) rfl m _ hu
      rw [addr0] at hc
      have HS : Hid (SRow wr n₀ g (some ⟨g, 0, none⟩) e ∧ wr.ownsRow n₀ 75 1 (.slice (some ⟨b, 0, none⟩) es.length C) es.length vals ∧ (∀ (i : Nat) (u : Value) (e : List ByteArray), vals[i]? = some u → es[i]? = some e → i < m → ∃ g cap, u = .slice (some ⟨g, 0, none⟩) e.length cap ∧ ∀ j, j < e.length → wr.cell? ⟨g, j, none⟩ = some (.string (mt (k0 + offE es i + j)))) ∧ (∀ (i : Nat) (u : Value) (e : List ByteArray), vals[i]? = some u → es[i]? = some e → m ≤ i → wr.ownsRow n₀ 9 1 u e.length (e.map Value.string)) ∧ Below n₀ w wr ∧ vals[m]? = some (.slice (some ⟨g, 0, none⟩) e.length cap) ∧ es[m]? = some e ∧ KeepV vals w wr) := ⟨S, hrow, hmk, hun, hb, hu, he, hT⟩
      clear hrow hmk hun hb hu he hur S hueb hT
      go_wp2_with fail
      refine (markStrings_any (some ⟨g, 0, none⟩) cap g n₀ (k0 + offE es m) e _ (by omega) (by omega) (by omega) HS.out.1).mono ?_
      rintro e1 w2 ⟨rfl, hm2, hk2⟩
      obtain ⟨S, hrow, hmk, hun, hb, hu, he, hT⟩ := HS.out
      have hK := hk2 g (fun _ => rfl)
      have hgn := S.base hp
      have hne : ∀ (i : Nat) (x : Value), i ≠ m → vals[i]? = some x → x.ownBlock ≠ some g := fun i x hi hx => by
        have hgb : (Value.slice (some ⟨g, 0, none⟩) e.length cap).ownBlock = some g := rfl
        rcases Nat.lt_or_ge i m with q | q
        · have := HO.out.1.apart i m x _ q hx hu
          rwa [hgb] at this
        · have := HO.out.1.apart m i _ x (by omega) hu hx
          rw [hgb] at this
          exact this.symm
      have HN : Hid (w2.ownsRow n₀ 75 1 (.slice (some ⟨b, 0, none⟩) es.length C) es.length vals ∧ (∀ (i : Nat) (u : Value) (e : List ByteArray), vals[i]? = some u → es[i]? = some e → i < m + 1 → ∃ g cap, u = .slice (some ⟨g, 0, none⟩) e.length cap ∧ ∀ j, j < e.length → w2.cell? ⟨g, j, none⟩ = some (.string (mt (k0 + offE es i + j)))) ∧ (∀ (i : Nat) (u : Value) (e : List ByteArray), vals[i]? = some u → es[i]? = some e → m + 1 ≤ i → w2.ownsRow n₀ 9 1 u e.length (e.map Value.string)) ∧ Below n₀ w w2 ∧ offE es (m + 1) = offE es m + e.length ∧ KeepV vals w w2) := by
        refine ⟨?_, fun i x y hx hy hi => ?_, fun i x y hx hy hi => row_keepG (hun i x y hx hy (by omega)) (hne i x (by omega) hx) hK, hb.trans (hK.below hgn (Nat.le_trans hn hb.size)), offE_succ he, fun q hq hc => (hK.block q (Nat.lt_of_lt_of_le hq hb.size) (fun h => ?_)).trans (hT q hq hc)⟩
        · refine row_keepG hrow ?_ hK
          rcases rows_apart (hun m _ e hu he (Nat.le_refl _)) hrow (by decide) with h1 | h1
          · simp [Value.ownBlock] at h1
          · exact fun h2 => h1 (by rw [h2]; rfl)
        · rcases Nat.lt_or_ge i m with q | q
          · obtain ⟨g1, c1, e1, e2⟩ := hmk i x y hx hy q
            have := hne i x (by omega) hx
            rw [e1] at this
            have hg1 : g1 ≠ g := fun h => this (by rw [h]; rfl)
            exact ⟨g1, c1, e1, fun j hj => hK.cell (e2 j hj) hg1⟩
          · obtain rfl : i = m := by omega
            rw [hu] at hx
            rw [he] at hy
            cases hx
            cases hy
            exact ⟨g, cap, rfl, hm2⟩
        · exact hc _ (List.mem_of_getElem? hu) (by rw [h]; rfl)
      clear HS S hrow hmk hun hb hu he hK hk2 hm2 hne hT
      go_wp2
      go_roundw
      case rel => exact ⟨m + 1, by omega, by go_num, by rw [HN.out.2.2.2.2.1]; congr 1; omega, HN.out.1, HN.out.2.1, HN.out.2.2.1, HN.out.2.2.2.1, HN.out.2.2.2.2.2⟩
      case measure => simp [intOf]; omega
    · have hge : (es.length : Int) ≤ (m : Int) := by omega
      obtain rfl : m = es.length := by omega
      have HS : Hid (wr.ownsRow n₀ 75 1 (.slice A es.length C) es.length vals ∧ (∀ (i : Nat) (u : Value) (e : List ByteArray), vals[i]? = some u → es[i]? = some e → i < es.length → ∃ g cap, u = .slice (some ⟨g, 0, none⟩) e.length cap ∧ ∀ j, j < e.length → wr.cell? ⟨g, j, none⟩ = some (.string (mt (k0 + offE es i + j)))) ∧ Below n₀ w wr ∧ KeepV vals w wr) := ⟨hrow, hmk, hb, hT⟩
      clear hrow hmk hun hb hT
      go_wp2
      go_ret
      refine ⟨rfl, ⟨HO.out.1.len, ⟨A, C, rfl, fun h0 => ?_⟩, fun i u e hu he => HS.out.2.1 i u e hu he (List.getElem?_eq_some_iff.1 he).1⟩, HS.out.2.2.1, HS.out.2.2.2⟩
      rcases HS.out.1.2 with ⟨h1, h0'⟩ | ⟨g, cap, cur, h1, _⟩
      · omega
      · simp at h1
        refine ⟨g, h1.1, fun i u hu => ?_⟩
        have := HS.out.1.cells (g := g) (by rw [h1.1]; rfl) i u hu
        rwa [addr0] at this
theorem KeepV.keepT {n₀ : Nat} {w w' : World} {v : Value} {vals : List Value} {es : List (List ByteArray)} (h : KeepV vals w w') (hO : OwnV n₀ w v vals es) : KeepT w w' := fun k hk hc => h k hk fun x hx e => by
  obtain ⟨i, hi⟩ := List.getElem?_of_mem hx
  have hlt := (List.getElem?_eq_some_iff.1 hi).1
  rw [hO.len] at hlt
  obtain ⟨_, _, c, h2⟩ := row_at (hO.parts i x _ hi (List.getElem?_eq_getElem hlt)).1 e
  exact hc c h2
theorem markE_any (v : Value) (vals : List Value) (es : List (List ByteArray)) (n₀ k0 : Nat) (w : World) (h : OwnV n₀ w v vals es) (hX : BdX es) (hl : es.length ≤ 10) (hn : n₀ ≤ w.heap.size) (hk0 : 0 < k0) (hk1 : k0 ≤ 99900) :
    Calls Tryz.prog 27 #[v, .int .i64 k0] w fun e w' => e = .returned (.int .i64 ((k0 + offE es es.length : Nat) : Int)) ∧ MkE k0 w' v vals es ∧ Below n₀ w w' ∧ KeepT w w' := by
  refine (markV_any v vals es n₀ k0 w h hX hl hn hk0 hk1).mono ?_
  rintro e w' ⟨he, h1, h2, h3⟩
  exact ⟨he, h1, h2, h3.keepT h⟩
set_option maxHeartbeats 2000000 in
theorem heldE_any (v : Value) (vals : List Value) (es : List (List ByteArray)) (k0 : Nat) (w : World) (h : MkE k0 w v vals es) (hX : BdX es) (hl : es.length ≤ 10) (hk0 : 0 < k0) (hk1 : k0 ≤ 99900) :
    Calls Tryz.prog 28 #[v, .int .i64 k0] w fun e w' => e = .returned (.int .i64 ((k0 + offE es es.length : Nat) : Int)) ∧ Below w.heap.size w w' := by
  have HO : Hid (MkE k0 w v vals es ∧ BdX es) := ⟨h, hX⟩
  obtain ⟨A, C, rfl, _⟩ := h.at_
  clear h hX
  go_enter Tryz.func28, Tryz.ntmps28
  go_wp2
  go_loopw [1, 5] (fun kv i wr => ∃ m : Nat, m ≤ es.length ∧ i = .int .i64 m ∧ kv = .int .i64 ((k0 + offE es m : Nat) : Int) ∧ Below w.heap.size w wr) (fun _ i _ => es.length - (intOf i).toNat)
  case atStart => exact ⟨0, Nat.zero_le _, rfl, by simp [offE_zero], Below.refl _ _⟩
  case round =>
    obtain ⟨m, hm, rfl, rfl, hb⟩ := hrel
    have hof := offE_le HO.out.2 m hm
    by_cases hlt : m < es.length
    · have hlt' : (m : Int) < (es.length : Int) := by omega
      have hK := HO.out.1.below hb
      obtain ⟨e, he⟩ : ∃ e, es[m]? = some e := ⟨_, List.getElem?_eq_getElem hlt⟩
      obtain ⟨u, hu⟩ : ∃ u, vals[m]? = some u := ⟨_, List.getElem?_eq_getElem (by rw [HO.out.1.len]; exact hlt)⟩
      have he4 := (HO.out.2 e (List.mem_of_getElem? he)).1
      obtain ⟨g, cap, hue, hcs⟩ := hK.parts m u e hu he
      subst hue
      obtain ⟨A', C', hv, hA⟩ := hK.at_
      obtain ⟨b, hA', hc'⟩ := hA (by omega)
      simp at hv
      obtain ⟨rfl, rfl⟩ := hv
      subst hA'
      have hc := hc' m _ hu
      have HS : Hid ((∀ j, j < e.length → wr.cell? ⟨g, j, none⟩ = some (.string (mt (k0 + offE es m + j)))) ∧ Below w.heap.size w wr ∧ offE es (m + 1) = offE es m + e.length) := ⟨hcs, hb, offE_succ he⟩
      clear hK hu he hcs hA hc' hb
      go_wp2_with fail
      refine (heldStrings_any (some ⟨g, 0, none⟩) cap g (k0 + offE es m) e.length _ (by omega) (by omega) (by omega) (fun _ => rfl) HS.out.1).mono ?_
      rintro e1 w2 ⟨rfl, hb2⟩
      have HN : Hid (Below w.heap.size w w2 ∧ offE es (m + 1) = offE es m + e.length) := ⟨HS.out.2.1.trans (hb2.mono HS.out.2.1.size), HS.out.2.2⟩
      clear HS hb2
      go_wp2
      go_roundw
      case rel => exact ⟨m + 1, by omega, by go_num, by rw [HN.out.2]; congr 1; omega, HN.out.1⟩
      case measure => simp [intOf]; omega
    · have hge : (es.length : Int) ≤ (m : Int) := by omega
      obtain rfl : m = es.length := by omega
      have HB : Hid (Below w.heap.size w wr) := hb
      clear hb
      go_wp2
      go_ret
      exact ⟨rfl, HB.out⟩
end Go.Proofs.YtcdebinldmblkaaGreatDoor
