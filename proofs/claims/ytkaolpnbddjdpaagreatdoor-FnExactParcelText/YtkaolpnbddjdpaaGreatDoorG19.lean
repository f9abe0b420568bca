/- Texts of ours put together: SRowT, MarkT, Marks, MarkE, MarkL. -/
import Derived.Test.YtkaolpnbddjdpaaGreatDoorG00
import Derived.Test.YtkaolpnbddjdpaaGreatDoorRows
import Derived.WalkKit
import Derived.ProofKit
import Derived.OpenShut
import Derived.ShutString
import Derived.ChangeOld
import Derived.Below
import Derived.WalkLawsBesides
import Derived.WalkSpells
import Derived.Deep.Light
import Derived.Handy
import Derived.Deep.QuietTactic
import Derived.BigQuiet
import Derived.Deep.RegionHeld3
import Derived.Laws.BytesArg
import Derived.Test.YtkaolpnbddjdpaaGreatDoorG03
import Derived.Test.YtkaolpnbddjdpaaGreatDoorG02
namespace Go.Proofs.YtkaolpnbddjdpaaGreatDoor
open Go.ChangeShapes Go.WideShapes Go.ChangeAt Go.RowKit
/-- A list of strings that lies in block g from n₀ on, or is empty. -/
structure SRow (W : World) (n₀ g : Nat) (ad : Option Addr) (T : List ByteArray) : Prop where
  at_ : 0 < T.length → ad = some ⟨g, 0, none⟩
  base : 0 < T.length → n₀ ≤ g
  cell : ∀ i, i < T.length → W.cell? ⟨g, i, none⟩ = some (.string (T[i]?.getD ⟨#[]⟩))
  fz : 0 < T.length → ∀ o, W.frozen? ⟨g, o, none⟩ = false
theorem SRow.keep {W W' : World} {n₀ g B : Nat} {ad : Option Addr} {T : List ByteArray} (h : SRow W n₀ g ad T) (hk : Keep B W W') (hB : 0 < T.length → g ≠ B) : SRow W' n₀ g ad T :=
  ⟨h.at_, h.base, fun i hi => hk.cell (h.cell i hi) (hB (by omega)), fun g0 o => (hk.frozen (cell_lt (h.cell 0 g0)) o (hB g0)).trans (h.fz g0 o)⟩
theorem SRow.below {W W' : World} {n₀ g : Nat} {ad : Option Addr} {T : List ByteArray} (h : SRow W n₀ g ad T) (hb : Below W.heap.size W W') : SRow W' n₀ g ad T :=
  h.keep (Keep.of_below (B := g + 1) hb) (fun _ => by omega)
theorem SRow.of_owns {W : World} {n₀ : Nat} {v : Value} {T : List ByteArray} (h : W.ownsRow n₀ 9 1 v T.length (T.map Value.string)) : ∃ g ad cap, v = .slice ad T.length cap ∧ SRow W n₀ g ad T := by
  rcases h.2 with ⟨rfl, e⟩ | ⟨g, cap, cur, rfl, hb, hgb, _, _, _, htk⟩
  · exact ⟨0, none, 0, by rw [e], ⟨fun h => by omega, fun h => by omega, fun i hi => by omega, fun h => by omega⟩⟩
  · refine ⟨g, _, cap, rfl, ⟨fun _ => rfl, fun _ => hb, fun i hi => ?_, fun _ o => by simp [World.frozen?, hgb]⟩⟩
    have h1 : (cur.toList.take (T.length * 1))[i]? = (T.map Value.string)[i]? := by rw [htk]
    rw [List.getElem?_take_of_lt (by omega)] at h1
    simp [World.cell?, hgb, List.getElem?_eq_getElem hi] at h1 ⊢
    rw [h1]
end Go.Proofs.YtkaolpnbddjdpaaGreatDoor
namespace Go.Proofs.YtkaolpnbddjdpaaGreatDoor
open Go.ChangeShapes Go.WideShapes Go.ChangeAt Go.RowKit
/-- The digits of a number ahead of a text. -/
def digs : Nat → Nat → ByteArray → ByteArray
  | 0, _, acc => acc
  | f + 1, k, acc => if k = 0 then acc else digs f (k / 10) (strOfNums [48 + ((k % 10 : Nat) : Int)] ++ acc)
theorem digs_zero (f : Nat) (acc : ByteArray) : digs f 0 acc = acc := by cases f <;> simp [digs]
def mt (k : Nat) : ByteArray := ⟨#[109]⟩ ++ digs 6 k ⟨#[]⟩
set_option maxHeartbeats 1000000 in
theorem markText_any (k0 : Nat) (w : World) (h0 : 0 < k0) (h1 : k0 ≤ 99999) :
    Calls Tryz.prog 88 #[.int .i64 k0] w fun e w' => e = .returned (.string (mt k0)) ∧ Below w.heap.size w w' := by
  have h0' : (0 : Int) < (k0 : Int) := by omega
  have h1' : (k0 : Int) ≤ 99999 := by omega
  have hz0 : decide (k0 = 0) = false := by simp; omega
  go_enter Tryz.func88, Tryz.ntmps88
  go_wp2
  go_loopw [0, 3] (fun kv o wr => ∃ (f j : Nat) (acc : ByteArray), kv = .int .i64 j ∧ o = .string acc ∧ j < 10 ^ f ∧ j ≤ 99999 ∧ acc.size + f ≤ 6 ∧ digs f j acc = digs 6 k0 ⟨#[]⟩ ∧ Below w.heap.size w wr) (fun kv _ _ => (intOf kv).toNat)
  case atStart => exact ⟨6, k0, ⟨#[]⟩, rfl, rfl, by omega, h1, by decide, rfl, Below.refl _ _⟩
  case round =>
    obtain ⟨f, j, acc, rfl, rfl, hj, hj2, hac, hd, hb⟩ := hrel
    have H : Hid (j < 10 ^ f ∧ digs f j acc = digs 6 k0 ⟨#[]⟩ ∧ Below w.heap.size w wr) := ⟨hj, hd, hb⟩
    have hwz := hb.size
    clear hj hd hb
    have hcv := conv1 wr
    by_cases hp : 0 < j
    · have hp' : (0 : Int) < (j : Int) := by omega
      have hsn : (strOfNums [48 + (j : Int) % 10]).size = 1 := by rw [strOfNums_size]; rfl
      go_wp2
      obtain ⟨f, rfl⟩ : ∃ f', f = f' + 1 := by
        cases f with
        | zero =>
          have := H.out.1
          simp at this
          omega
        | succ f => exact ⟨f, rfl⟩
      have hd := H.out.2.1
      unfold digs at hd
      rw [if_neg (by omega)] at hd
      have hlt : j / 10 < 10 ^ f := by
        have := H.out.1
        rw [Nat.pow_succ] at this
        omega
      go_roundw
      case rel => exact ⟨f, j / 10, strOfNums [48 + ((j % 10 : Nat) : Int)] ++ acc, by simp, by simp, hlt, by omega, by rw [ByteArray.size_append, strOfNums_size]; simp; omega, hd, H.out.2.2.alloc hwz _⟩
      case measure => simp [intOf]; omega
    · obtain rfl : j = 0 := by omega
      have hacc : acc.size ≤ 6 := by omega
      have hd := H.out.2.1
      rw [digs_zero] at hd
      have HD : Hid (acc = digs 6 k0 ⟨#[]⟩) := hd
      clear hd
      go_wp2
      go_ret
      exact ⟨by unfold mt; rw [← HD.out]; rfl, H.out.2.2⟩
end Go.Proofs.YtkaolpnbddjdpaaGreatDoor
namespace Go.Proofs.YtkaolpnbddjdpaaGreatDoor
open Go.ChangeShapes Go.WideShapes Go.ChangeAt Go.RowKit
set_option maxHeartbeats 1000000 in
theorem eqStrings_same (ad ad' : Option Addr) (cap cap' g g' n₀ n₁ : Nat) (T : List ByteArray) (w : World) (hT : T.length ≤ 40001) (h : SRow w n₀ g ad T) (h' : SRow w n₁ g' ad' T) :
    Calls Tryz.prog 131 #[.slice ad T.length cap, .slice ad' T.length cap'] w fun e w' => e = .returned (.bool true) ∧ ∃ q, w' = w.drewN q := by
  have HT : Hid (SRow w n₀ g ad T ∧ SRow w n₁ g' ad' T) := ⟨h, h'⟩
  clear h h'
  go_enter Tryz.func131, Tryz.ntmps131
  go_wp2
  go_loopw [5] (fun i wr => ∃ k : Nat, k ≤ T.length ∧ i = .int .i64 k ∧ ∃ q, wr = w.drewN q) (fun i _ => T.length - (intOf i).toNat)
  case atStart => exact ⟨0, Nat.zero_le _, rfl, 0, rfl⟩
  case round =>
    obtain ⟨k, hk, rfl, q, hq⟩ := hrel
    subst hq
    by_cases hlt : k < T.length
    · have hlt' : (k : Int) < (T.length : Int) := by omega
      have e1 := HT.out.1.at_ (by omega)
      have e2 := HT.out.2.at_ (by omega)
      have k1 := HT.out.1.cell k hlt
      have k2 := HT.out.2.cell k hlt
      subst e1 e2
      go_wp2_with fail
      go_quiet (fail)
      go_wp2
      go_roundw
      case rel => exact ⟨k + 1, by omega, by go_num, _, rfl⟩
      case measure => simp [intOf]; omega
    · have hge : (T.length : Int) ≤ (k : Int) := by omega
      go_wp2
      go_ret
      exact ⟨rfl, _, rfl⟩
set_option maxHeartbeats 1000000 in
theorem markStrings_any (ad : Option Addr) (cap g n₀ k0 : Nat) (T : List ByteArray) (w : World) (hT : T.length ≤ 40001) (hk0 : 0 < k0) (hk1 : k0 + T.length ≤ 99999) (h : SRow w n₀ g ad T) :
    Calls Tryz.prog 89 #[.slice ad T.length cap, .int .i64 k0] w fun e w' => e = .returned (.int .i64 ((k0 + T.length : Nat) : Int)) ∧ (∀ i, i < T.length → w'.cell? ⟨g, i, none⟩ = some (.string (mt (k0 + i)))) ∧ ∀ B, (0 < T.length → B = g) → Keep B w w' := by
  have HT : Hid (SRow w n₀ g ad T) := h
  clear h
  go_enter Tryz.func89, Tryz.ntmps89
  go_wp2
  go_loopw [1, 5] (fun kv i wr => ∃ k : Nat, k ≤ T.length ∧ i = .int .i64 k ∧ kv = .int .i64 ((k0 + k : Nat) : Int) ∧ (∀ i, i < k → wr.cell? ⟨g, i, none⟩ = some (.string (mt (k0 + i)))) ∧ (∀ i, i < T.length → (wr.cell? ⟨g, i, none⟩).isSome = true) ∧ (0 < T.length → ∀ o, wr.frozen? ⟨g, o, none⟩ = false) ∧ ∀ B, (0 < T.length → B = g) → Keep B w wr) (fun _ i _ => T.length - (intOf i).toNat)
  case atStart => exact ⟨0, Nat.zero_le _, rfl, by simp, fun i hi => by omega, fun i hi => by rw [HT.out.cell i hi]; rfl, HT.out.fz, fun _ _ => Keep.refl _ _⟩
  case round =>
    obtain ⟨k, hk, rfl, rfl, hm, hsome, hfz, hK⟩ := hrel
    have HK : Hid ((∀ i, i < k → wr.cell? ⟨g, i, none⟩ = some (.string (mt (k0 + i)))) ∧ (∀ i, i < T.length → (wr.cell? ⟨g, i, none⟩).isSome = true) ∧ (0 < T.length → ∀ o, wr.frozen? ⟨g, o, none⟩ = false) ∧ ∀ B, (0 < T.length → B = g) → Keep B w wr) := ⟨hm, hsome, hfz, hK⟩
    clear hm hsome hfz hK
    by_cases hlt : k < T.length
    · have hlt' : (k : Int) < (T.length : Int) := by omega
      have e1 := HT.out.at_ (by omega)
      subst e1
      go_wp2_with fail
      refine (markText_any (k0 + k) _ (by omega) (by omega)).mono ?_
      rintro e w3 ⟨rfl, hb3⟩
      obtain ⟨m1, m2, m3, m4⟩ := HK.out
      obtain ⟨u, hu⟩ := Option.isSome_iff_exists.1 (m2 k hlt)
      have hgl : g < wr.heap.size := cell_lt hu
      have ku : w3.cell? ⟨g, k, none⟩ = some u := (hb3.cell (p := ⟨g, k, none⟩) hgl).trans hu
      have zu : ∀ o, w3.frozen? ⟨g, o, none⟩ = false := fun o => (hb3.frozen (p := ⟨g, o, none⟩) hgl).trans (m3 (by omega) o)
      have HM : Hid ((∀ i, i < k → w3.cell? ⟨g, i, none⟩ = some (.string (mt (k0 + i)))) ∧ (∀ i, i < T.length → (w3.cell? ⟨g, i, none⟩).isSome = true) ∧ Keep g w w3) := ⟨fun i hi => (hb3.cell (p := ⟨g, i, none⟩) hgl).trans (m1 i hi), fun i hi => by rw [hb3.cell (p := ⟨g, i, none⟩) hgl]; exact m2 i hi, (m4 g (fun _ => rfl)).trans (Keep.of_below hb3)⟩
      clear m1 m2 m3 m4 HK hb3 hu hgl
      go_wp2
      go_roundw
      case rel =>
        refine ⟨k + 1, by omega, by go_num, by first | go_num | (congr 1; omega), fun i hi => ?_, fun i hi => ?_, fun _ o => by rw [World.frozen?_setCell]; exact zu o, fun B hB => ?_⟩
        · by_cases e : i = k
          · subst e
            exact World.cell?_setCell_same' _ _ _ (by rw [ku]; rfl)
          · rw [World.cell?_setCell_other _ _ _ _ (by simp <;> omega)]
            exact HM.out.1 i (by omega)
        · by_cases e : i = k
          · subst e
            rw [World.cell?_setCell_same' _ _ _ (by rw [ku]; rfl)]
            rfl
          · rw [World.cell?_setCell_other _ _ _ _ (by simp <;> omega)]
            exact HM.out.2.1 i hi
        · obtain rfl : B = g := hB (by omega)
          exact HM.out.2.2.setCell k _
      case measure => simp [intOf]; omega
    · have hge : (T.length : Int) ≤ (k : Int) := by omega
      obtain rfl : k = T.length := by omega
      go_wp2
      go_ret
      exact ⟨rfl, HK.out.1, HK.out.2.2.2⟩
set_option maxHeartbeats 1000000 in
theorem heldStrings_any (ad : Option Addr) (cap g k0 n : Nat) (w : World) (hn : n ≤ 40001) (hk0 : 0 < k0) (hk1 : k0 + n ≤ 99999) (hat : 0 < n → ad = some ⟨g, 0, none⟩) (hc : ∀ i, i < n → w.cell? ⟨g, i, none⟩ = some (.string (mt (k0 + i)))) :
    Calls Tryz.prog 184 #[.slice ad n cap, .int .i64 k0] w fun e w' => e = .returned (.int .i64 ((k0 + n : Nat) : Int)) ∧ Below w.heap.size w w' := by
  have HT : Hid ((0 < n → ad = some ⟨g, 0, none⟩) ∧ ∀ i, i < n → w.cell? ⟨g, i, none⟩ = some (.string (mt (k0 + i)))) := ⟨hat, hc⟩
  clear hat hc
  go_enter Tryz.func184, Tryz.ntmps184
  go_wp2
  go_loopw [1, 5] (fun kv i wr => ∃ k : Nat, k ≤ n ∧ i = .int .i64 k ∧ kv = .int .i64 ((k0 + k : Nat) : Int) ∧ Below w.heap.size w wr) (fun _ i _ => n - (intOf i).toNat)
  case atStart => exact ⟨0, Nat.zero_le _, rfl, by simp, Below.refl _ _⟩
  case round =>
    obtain ⟨k, hk, rfl, rfl, hb⟩ := hrel
    by_cases hlt : k < n
    · have hlt' : (k : Int) < (n : Int) := by omega
      have e1 := HT.out.1 (by omega)
      subst e1
      have hgl : g < w.heap.size := cell_lt (HT.out.2 k hlt)
      have ku : wr.cell? ⟨g, k, none⟩ = some (.string (mt (k0 + k))) := (hb.cell (p := ⟨g, k, none⟩) hgl).trans (HT.out.2 k hlt)
      have hgr : g < wr.heap.size := by have := hb.size; omega
      have HB : Hid (Below w.heap.size w wr) := hb
      clear hb
      go_wp2_with fail
      go_region_held3 (fun w' => w'.cell? ⟨g, k, none⟩ = some (.string (mt (k0 + k)))) (go_keep)
        (first | (go_at_call 88; refine (markText_any (k0 + k) _ (by omega) (by omega)).mono ?_; rintro e w3 ⟨rfl, hb3⟩; have ku3 := (hb3.cell (p := ⟨g, k, none⟩) hgr).trans (show wr.drew.cell? ⟨g, k, none⟩ = _ from ku)))
      go_wp2
      go_roundw
      case rel => exact ⟨k + 1, by omega, by go_num, by first | go_num | (congr 1; omega), HB.out.drew.trans (hb3.mono (show w.heap.size ≤ wr.heap.size from HB.out.size))⟩
      case measure => simp [intOf]; omega
    · have hge : (n : Int) ≤ (k : Int) := by omega
      obtain rfl : k = n := by omega
      have HB : Hid (Below w.heap.size w wr) := hb
      clear hb
      go_wp2
      go_ret
      exact ⟨rfl, HB.out⟩
end Go.Proofs.YtkaolpnbddjdpaaGreatDoor
namespace Go.Proofs.YtkaolpnbddjdpaaGreatDoor
open Go.ChangeShapes Go.WideShapes Go.ChangeAt Go.RowKit
/-- How many parts stand ahead of an element. -/
def offE (es : List (List ByteArray)) (i : Nat) : Nat := ((es.take i).map List.length).sum
theorem offE_zero (es : List (List ByteArray)) : offE es 0 = 0 := by simp [offE]
theorem offE_succ {es : List (List ByteArray)} {i : Nat} {e : List ByteArray} (h : es[i]? = some e) : offE es (i + 1) = offE es i + e.length := by
  unfold offE
  rw [List.take_add_one, h]
  simp
theorem offE_le {es : List (List ByteArray)} (hX : BdX es) : ∀ i, i ≤ es.length → offE es i ≤ 4 * i := by
  intro i
  induction i with
  | zero => intro _; simp [offE]
  | succ i ih =>
    intro hi
    have hlt : i < es.length := by omega
    rw [offE_succ (List.getElem?_eq_getElem hlt)]
    have := ih (by omega)
    have := (hX es[i] (List.getElem_mem hlt)).1
    omega
theorem addr0 (b i : Nat) : (⟨b, 0, none⟩ : Addr).add i = ⟨b, i, none⟩ := by unfold Addr.add; split <;> simp_all
theorem Keep.grownBy {R : Nat} {W W' : World} (h : Keep R W W') : W.grownBy W' (some R) := ⟨h.os, h.tape, h.output, h.size, fun k hk hn => h.block k hk (fun e => hn (by rw [e]))⟩
theorem row_keepG {n₀ t k R : Nat} {W W' : World} {v : Value} {xs : List Value} (h : W.ownsRow n₀ t 1 v k xs) (hv : v.ownBlock ≠ some R) (hk : Keep R W W') : W'.ownsRow n₀ t 1 v k xs :=
  h.kept hk.grownBy (.inr hv)
/-- What is none of these rows lies as it lay. -/
def KeepV (vals : List Value) (w w' : World) : Prop := ∀ k, k < w.heap.size → (∀ x ∈ vals, x.ownBlock ≠ some k) → w'.heap[k]? = w.heap[k]?
/-- What is no row of texts lies as it lay. -/
def KeepT (w w' : World) : Prop := ∀ k, k < w.heap.size → (∀ c, w.heap[k]? ≠ some (.cells c 9 (0, 0))) → w'.heap[k]? = w.heap[k]?
/-- The elements' parts hold the marks from k0 on. -/
structure MkE (k0 : Nat) (W : World) (v : Value) (vals : List Value) (es : List (List ByteArray)) : Prop where
  len : vals.length = es.length
  at_ : ∃ A C, v = .slice A es.length C ∧ (0 < es.length → ∃ b, A = some ⟨b, 0, none⟩ ∧ ∀ (i : Nat) (u : Value), vals[i]? = some u → W.cell? ⟨b, i, none⟩ = some u)
  parts : ∀ (i : Nat) (u : Value) (e : List ByteArray), vals[i]? = some u → es[i]? = some e → ∃ g cap, u = .slice (some ⟨g, 0, none⟩) e.length cap ∧ ∀ j, j < e.length → W.cell? ⟨g, j, none⟩ = some (.string (mt (k0 + offE es i + j)))
theorem MkE.below {k0 : Nat} {W W' : World} {v : Value} {vals : List Value} {es : List (List ByteArray)} (h : MkE k0 W v vals es) (hb : Below W.heap.size W W') : MkE k0 W' v vals es := by
  obtain ⟨A, C, hv, hA⟩ := h.at_
  refine ⟨h.len, ⟨A, C, hv, fun h0 => ?_⟩, fun i u e hu he => ?_⟩
  · obtain ⟨b, hb1, hb2⟩ := hA h0
    exact ⟨b, hb1, fun i u hu => (hb.cell (p := ⟨b, i, none⟩) (cell_lt (hb2 i u hu))).trans (hb2 i u hu)⟩
  · obtain ⟨g, cap, e1, e2⟩ := h.parts i u e hu he
    exact ⟨g, cap, e1, fun j hj => (hb.cell (p := ⟨g, j, none⟩) (cell_lt (e2 j hj))).trans (e2 j hj)⟩
theorem OwnV.slice {n₀ : Nat} {W : World} {v : Value} {vals : List Value} {es : List (List ByteArray)} (h : OwnV n₀ W v vals es) : ∃ A C, v = .slice A es.length C ∧ (0 < es.length → ∃ b, A = some ⟨b, 0, none⟩ ∧ ∀ (i : Nat) (u : Value), vals[i]? = some u → W.cell? ⟨b, i, none⟩ = some u) := by
  have hr := h.row
  rcases hr.2 with ⟨rfl, h0⟩ | ⟨g, cap, cur, rfl, _⟩
  · exact ⟨none, 0, by rw [h0], fun hp => by omega⟩
  · refine ⟨_, cap, rfl, fun _ => ⟨g, rfl, fun i u hu => ?_⟩⟩
    have := hr.cells (g := g) rfl i u hu
    rwa [addr0] at this
set_option maxHeartbeats 2000000 in
theorem markV_any (v : Value) (vals : List Value) (es : List (List ByteArray)) (n₀ k0 : Nat) (w : World) (h : OwnV n₀ w v vals es) (hX : BdX es) (hl : es.length ≤ 10) (hn : n₀ ≤ w.heap.size) (hk0 : 0 < k0) (hk1 : k0 ≤ 99900) :
    Calls Tryz.prog 165 #[v, .int .i64 k0] w fun e w' => e = .returned (.int .i64 ((k0 + offE es es.length : Nat) : Int)) ∧ MkE k0 w' v vals es ∧ Below n₀ w w' ∧ KeepV vals w w' := by
  have HO : Hid (OwnV n₀ w v vals es ∧ BdX es) := ⟨h, hX⟩
  obtain ⟨A, C, rfl, _⟩ := h.slice
  clear h hX
  go_enter Tryz.func165, Tryz.ntmps165
  go_wp2
  go_loopw [1, 5] (fun kv i wr => ∃ m : Nat, m ≤ es.length ∧ i = .int .i64 m ∧ kv = .int .i64 ((k0 + offE es m : Nat) : Int) ∧ wr.ownsRow n₀ 141 1 (.slice A es.length C) es.length vals ∧ (∀ (i : Nat) (u : Value) (e : List ByteArray), vals[i]? = some u → es[i]? = some e → i < m → ∃ g cap, u = .slice (some ⟨g, 0, none⟩) e.length cap ∧ ∀ j, j < e.length → wr.cell? ⟨g, j, none⟩ = some (.string (mt (k0 + offE es i + j)))) ∧ (∀ (i : Nat) (u : Value) (e : List ByteArray), vals[i]? = some u → es[i]? = some e → m ≤ i → wr.ownsRow n₀ 9 1 u e.length (e.map Value.string)) ∧ Below n₀ w wr ∧ KeepV vals w wr) (fun _ i _ => es.length - (intOf i).toNat)
  case atStart => exact ⟨0, Nat.zero_le _, rfl, by simp [offE_zero], HO.out.1.row, fun i u e _ _ hi => by omega, fun i u e hu he _ => (HO.out.1.parts i u e hu he).1, Below.refl _ _, fun _ _ _ => rfl⟩
  case round =>
    obtain ⟨m, hm, rfl, rfl, hrow, hmk, hun, hb, hT⟩ := hrel
    have hof := offE_le HO.out.2 m hm
    by_cases hlt : m < es.length
    · have hlt' : (m : Int) < (es.length : Int) := by omega
      obtain ⟨e, he⟩ : ∃ e, es[m]? = some e := ⟨_, List.getElem?_eq_getElem hlt⟩
      obtain ⟨u, hu⟩ : ∃ u, vals[m]? = some u := ⟨_, List.getElem?_eq_getElem (by rw [HO.out.1.len]; exact hlt)⟩
      have he4 := (HO.out.2 e (List.mem_of_getElem? he)).1
      have hp := (HO.out.1.parts m u e hu he).2
      have hur := hun m u e hu he (Nat.le_refl _)
      obtain ⟨g, ad, cap, hue, S⟩ := SRow.of_owns hur
      have hueb : u.ownBlock = some g := by rw [hue, S.at_ hp]; rfl
      subst hue
      have had := S.at_ hp
      subst had
      obtain ⟨b, hA⟩ : ∃ b, A = some ⟨b, 0, none⟩ := by
        rcases hrow.2 with ⟨h1, h0⟩ | ⟨g, cap, cur, h1, _⟩
        · omega
        · simp at h1
          exact ⟨g, h1.1⟩
      subst hA
      have hc := hrow.cells (g := b) rfl m _ hu
      rw [addr0] at hc
      have HS : Hid (SRow wr n₀ g (some ⟨g, 0, none⟩) e ∧ wr.ownsRow n₀ 141 1 (.slice (some ⟨b, 0, none⟩) es.length C) es.length vals ∧ (∀ (i : Nat) (u : Value) (e : List ByteArray), vals[i]? = some u → es[i]? = some e → i < m → ∃ g cap, u = .slice (some ⟨g, 0, none⟩) e.length cap ∧ ∀ j, j < e.length → wr.cell? ⟨g, j, none⟩ = some (.string (mt (k0 + offE es i + j)))) ∧ (∀ (i : Nat) (u : Value) (e : List ByteArray), vals[i]? = some u → es[i]? = some e → m ≤ i → wr.ownsRow n₀ 9 1 u e.length (e.map Value.string)) ∧ Below n₀ w wr ∧ vals[m]? = some (.slice (some ⟨g, 0, none⟩) e.length cap) ∧ es[m]? = some e ∧ KeepV vals w wr) := ⟨S, hrow, hmk, hun, hb, hu, he, hT⟩
      clear hrow hmk hun hb hu he hur S hueb hT
      go_wp2_with fail
      refine (markStrings_any (some ⟨g, 0, none⟩) cap g n₀ (k0 + offE es m) e _ (by omega) (by omega) (by omega) HS.out.1).mono ?_
      rintro e1 w2 ⟨rfl, hm2, hk2⟩
      obtain ⟨S, hrow, hmk, hun, hb, hu, he, hT⟩ := HS.out
      have hK := hk2 g (fun _ => rfl)
      have hgn := S.base hp
      have hne : ∀ (i : Nat) (x : Value), i ≠ m → vals[i]? = some x → x.ownBlock ≠ some g := fun i x hi hx => by
        have hgb : (Value.slice (some ⟨g, 0, none⟩) e.length cap).ownBlock = some g := rfl
        rcases Nat.lt_or_ge i m with q | q
        · have := HO.out.1.apart i m x _ q hx hu
          rwa [hgb] at this
        · have := HO.out.1.apart m i _ x (by omega) hu hx
          rw [hgb] at this
          exact this.symm
      have HN : Hid (w2.ownsRow n₀ 141 1 (.slice (some ⟨b, 0, none⟩) es.length C) es.length vals ∧ (∀ (i : Nat) (u : Value) (e : List ByteArray), vals[i]? = some u → es[i]? = some e → i < m + 1 → ∃ g cap, u = .slice (some ⟨g, 0, none⟩) e.length cap ∧ ∀ j, j < e.length → w2.cell? ⟨g, j, none⟩ = some (.string (mt (k0 + offE es i + j)))) ∧ (∀ (i : Nat) (u : Value) (e : List ByteArray), vals[i]? = some u → es[i]? = some e → m + 1 ≤ i → w2.ownsRow n₀ 9 1 u e.length (e.map Value.string)) ∧ Below n₀ w w2 ∧ offE es (m + 1) = offE es m + e.length ∧ KeepV vals w w2) := by
        refine ⟨?_, fun i x y hx hy hi => ?_, fun i x y hx hy hi => row_keepG (hun i x y hx hy (by omega)) (hne i x (by omega) hx) hK, hb.trans (hK.below hgn (Nat.le_trans hn hb.size)), offE_succ he, fun q hq hc => (hK.block q (Nat.lt_of_lt_of_le hq hb.size) (fun h => ?_)).trans (hT q hq hc)⟩
        · refine row_keepG hrow ?_ hK
          rcases rows_apart (hun m _ e hu he (Nat.le_refl _)) hrow (by decide) with h1 | h1
          · simp [Value.ownBlock] at h1
          · exact fun h2 => h1 (by rw [h2]; rfl)
        · rcases Nat.lt_or_ge i m with q | q
          · obtain ⟨g1, c1, e1, e2⟩ := hmk i x y hx hy q
            have := hne i x (by omega) hx
            rw [e1] at this
            have hg1 : g1 ≠ g := fun h => this (by rw [h]; rfl)
            exact ⟨g1, c1, e1, fun j hj => hK.cell (e2 j hj) hg1⟩
          · obtain rfl : i = m := by omega
            rw [hu] at hx
            rw [he] at hy
            cases hx
            cases hy
            exact ⟨g, cap, rfl, hm2⟩
        · exact hc _ (List.mem_of_getElem? hu) (by rw [h]; rfl)
      clear HS S hrow hmk hun hb hu he hK hk2 hm2 hne hT
      go_wp2
      go_roundw
      case rel => exact ⟨m + 1, by omega, by go_num, by rw [HN.out.2.2.2.2.1]; congr 1; omega, HN.out.1, HN.out.2.1, HN.out.2.2.1, HN.out.2.2.2.1, HN.out.2.2.2.2.2⟩
      case measure => simp [intOf]; omega
    · have hge : (es.length : Int) ≤ (m : Int) := by omega
      obtain rfl : m = es.length := by omega
      have HS : Hid (wr.ownsRow n₀ 141 1 (.slice A es.length C) es.length vals ∧ (∀ (i : Nat) (u : Value) (e : List ByteArray), vals[i]? = some u → es[i]? = some e → i < es.length → ∃ g cap, u = .slice (some ⟨g, 0, none⟩) e.length cap ∧ ∀ j, j < e.length → wr.cell? ⟨g, j, none⟩ = some (.string (mt (k0 + offE es i + j)))) ∧ Below n₀ w wr ∧ KeepV vals w wr) := ⟨hrow, hmk, hb, hT⟩
      clear hrow hmk hun hb hT
      go_wp2
      go_ret
      refine ⟨rfl, ⟨HO.out.1.len, ⟨A, C, rfl, fun h0 => ?_⟩, fun i u e hu he => HS.out.2.1 i u e hu he (List.getElem?_eq_some_iff.1 he).1⟩, HS.out.2.2.1, HS.out.2.2.2⟩
      rcases HS.out.1.2 with ⟨h1, h0'⟩ | ⟨g, cap, cur, h1, _⟩
      · omega
      · simp at h1
        refine ⟨g, h1.1, fun i u hu => ?_⟩
        have := HS.out.1.cells (g := g) (by rw [h1.1]; rfl) i u hu
        rwa [addr0] at this
theorem KeepV.keepT {n₀ : Nat} {w w' : World} {v : Value} {vals : List Value} {es : List (List ByteArray)} (h : KeepV vals w w') (hO : OwnV n₀ w v vals es) : KeepT w w' := fun k hk hc => h k hk fun x hx e => by
  obtain ⟨i, hi⟩ := List.getElem?_of_mem hx
  have hlt := (List.getElem?_eq_some_iff.1 hi).1
  rw [hO.len] at hlt
  obtain ⟨_, _, c, h2⟩ := row_at (hO.parts i x _ hi (List.getElem?_eq_getElem hlt)).1 e
  exact hc c h2
theorem markE_any (v : Value) (vals : List Value) (es : List (List ByteArray)) (n₀ k0 : Nat) (w : World) (h : OwnV n₀ w v vals es) (hX : BdX es) (hl : es.length ≤ 10) (hn : n₀ ≤ w.heap.size) (hk0 : 0 < k0) (hk1 : k0 ≤ 99900) :
    Calls Tryz.prog 165 #[v, .int .i64 k0] w fun e w' => e = .returned (.int .i64 ((k0 + offE es es.length : Nat) : Int)) ∧ MkE k0 w' v vals es ∧ Below n₀ w w' ∧ KeepT w w' := by
  refine (markV_any v vals es n₀ k0 w h hX hl hn hk0 hk1).mono ?_
  rintro e w' ⟨he, h1, h2, h3⟩
  exact ⟨he, h1, h2, h3.keepT h⟩
set_option maxHeartbeats 2000000 in
theorem heldE_any (v : Value) (vals : List Value) (es : List (List ByteArray)) (k0 : Nat) (w : World) (h : MkE k0 w v vals es) (hX : BdX es) (hl : es.length ≤ 10) (hk0 : 0 < k0) (hk1 : k0 ≤ 99900) :
    Calls Tryz.prog 166 #[v, .int .i64 k0] w fun e w' => e = .returned (.int .i64 ((k0 + offE es es.length : Nat) : Int)) ∧ Below w.heap.size w w' := by
  have HO : Hid (MkE k0 w v vals es ∧ BdX es) := ⟨h, hX⟩
  obtain ⟨A, C, rfl, _⟩ := h.at_
  clear h hX
  go_enter Tryz.func166, Tryz.ntmps166
  go_wp2
  go_loopw [1, 5] (fun kv i wr => ∃ m : Nat, m ≤ es.length ∧ i = .int .i64 m ∧ kv = .int .i64 ((k0 + offE es m : Nat) : Int) ∧ Below w.heap.size w wr) (fun _ i _ => es.length - (intOf i).toNat)
  case atStart => exact ⟨0, Nat.zero_le _, rfl, by simp [offE_zero], Below.refl _ _⟩
  case round =>
    obtain ⟨m, hm, rfl, rfl, hb⟩ := hrel
    have hof := offE_le HO.out.2 m hm
    by_cases hlt : m < es.length
    · have hlt' : (m : Int) < (es.length : Int) := by omega
      have hK := HO.out.1.below hb
      obtain ⟨e, he⟩ : ∃ e, es[m]? = some e := ⟨_, List.getElem?_eq_getElem hlt⟩
      obtain ⟨u, hu⟩ : ∃ u, vals[m]? = some u := ⟨_, List.getElem?_eq_getElem (by rw [HO.out.1.len]; exact hlt)⟩
      have he4 := (HO.out.2 e (List.mem_of_getElem? he)).1
      obtain ⟨g, cap, hue, hcs⟩ := hK.parts m u e hu he
      subst hue
      obtain ⟨A', C', hv, hA⟩ := hK.at_
      obtain ⟨b, hA', hc'⟩ := hA (by omega)
      simp at hv
      obtain ⟨rfl, rfl⟩ := hv
      subst hA'
      have hc := hc' m _ hu
      have HS : Hid ((∀ j, j < e.length → wr.cell? ⟨g, j, none⟩ = some (.string (mt (k0 + offE es m + j)))) ∧ Below w.heap.size w wr ∧ offE es (m + 1) = offE es m + e.length) := ⟨hcs, hb, offE_succ he⟩
      clear hK hu he hcs hA hc' hb
      go_wp2_with fail
      refine (heldStrings_any (some ⟨g, 0, none⟩) cap g (k0 + offE es m) e.length _ (by omega) (by omega) (by omega) (fun _ => rfl) HS.out.1).mono ?_
      rintro e1 w2 ⟨rfl, hb2⟩
      have HN : Hid (Below w.heap.size w w2 ∧ offE es (m + 1) = offE es m + e.length) := ⟨HS.out.2.1.trans (hb2.mono HS.out.2.1.size), HS.out.2.2⟩
      clear HS hb2
      go_wp2
      go_roundw
      case rel => exact ⟨m + 1, by omega, by go_num, by rw [HN.out.2]; congr 1; omega, HN.out.1⟩
      case measure => simp [intOf]; omega
    · have hge : (es.length : Int) ≤ (m : Int) := by omega
      obtain rfl : m = es.length := by omega
      have HB : Hid (Below w.heap.size w wr) := hb
      clear hb
      go_wp2
      go_ret
      exact ⟨rfl, HB.out⟩
end Go.Proofs.YtkaolpnbddjdpaaGreatDoor
namespace Go.Proofs.YtkaolpnbddjdpaaGreatDoor
open Go.ChangeShapes Go.WideShapes Go.ChangeAt Go.RowKit
/-- How many marks a list of segments takes ahead of one. -/
def offL (gs : List Seg) (i : Nat) : Nat := ((gs.take i).map fun g => 1 + offE g.2 g.2.length).sum
theorem offL_zero (gs : List Seg) : offL gs 0 = 0 := by simp [offL]
theorem offL_succ {gs : List Seg} {i : Nat} {g : Seg} (h : gs[i]? = some g) : offL gs (i + 1) = offL gs i + 1 + offE g.2 g.2.length := by
  unfold offL
  rw [List.take_add_one, h]
  simp
  omega
/-- Bounds of what was read. -/
def BdLg (gs : List Seg) : Prop := ∀ g ∈ gs, BdX g.2 ∧ g.2.length ≤ 10 ∧ g.1.size = 3
theorem offL_le {gs : List Seg} (hX : BdLg gs) : ∀ i, i ≤ gs.length → offL gs i ≤ 41 * i := by
  intro i
  induction i with
  | zero => intro _; simp [offL]
  | succ i ih =>
    intro hi
    have hlt : i < gs.length := by omega
    rw [offL_succ (List.getElem?_eq_getElem hlt)]
    have := ih (by omega)
    have h1 := hX gs[i] (List.getElem_mem hlt)
    have := offE_le h1.1 gs[i].2.length (Nat.le_refl _)
    omega
theorem MkE.same {k0 : Nat} {W W' : World} {v : Value} {vals : List Value} {es : List (List ByteArray)} (h : MkE k0 W v vals es) (hs : ∀ x ∈ v :: vals, ∀ g, x.ownBlock = some g → W'.heap[g]? = W.heap[g]?) : MkE k0 W' v vals es := by
  obtain ⟨A, C, hv, hA⟩ := h.at_
  refine ⟨h.len, ⟨A, C, hv, fun h0 => ?_⟩, fun i u e hu he => ?_⟩
  · obtain ⟨b, hb1, hb2⟩ := hA h0
    exact ⟨b, hb1, fun i u hu => (World.cell?_of_block (w := W) (hs v (by simp) b (by rw [hv, hb1]; rfl))).trans (hb2 i u hu)⟩
  · obtain ⟨g, cap, e1, e2⟩ := h.parts i u e hu he
    exact ⟨g, cap, e1, fun j hj => (World.cell?_of_block (w := W) (hs u (by simp [List.mem_of_getElem? hu]) g (by rw [e1]; rfl))).trans (e2 j hj)⟩
/-- Tags and parts hold the marks from k0 on. -/
structure MkL (k0 : Nat) (W : World) (v : Value) (ps : List (Value × List Value)) (gs : List Seg) : Prop where
  len : ps.length = gs.length
  at_ : ∃ A C, v = .slice A gs.length C ∧ (0 < gs.length → ∃ b, A = some ⟨b, 0, none⟩ ∧ ∀ (i : Nat) (p : Value × List Value), ps[i]? = some p → W.cell? ⟨b, i * 2, none⟩ = some (.string (mt (k0 + offL gs i))) ∧ W.cell? ⟨b, i * 2 + 1, none⟩ = some p.1)
  segs : ∀ (i : Nat) (p : Value × List Value) (g : Seg), ps[i]? = some p → gs[i]? = some g → MkE (k0 + offL gs i + 1) W p.1 p.2 g.2
theorem MkL.below {k0 : Nat} {W W' : World} {v : Value} {ps : List (Value × List Value)} {gs : List Seg} (h : MkL k0 W v ps gs) (hb : Below W.heap.size W W') : MkL k0 W' v ps gs := by
  obtain ⟨A, C, hv, hA⟩ := h.at_
  refine ⟨h.len, ⟨A, C, hv, fun h0 => ?_⟩, fun i p g hp hg => (h.segs i p g hp hg).below hb⟩
  obtain ⟨b, hb1, hb2⟩ := hA h0
  exact ⟨b, hb1, fun i p hp => ⟨(hb.cell (p := ⟨b, i * 2, none⟩) (cell_lt (hb2 i p hp).1)).trans (hb2 i p hp).1, (hb.cell (p := ⟨b, i * 2 + 1, none⟩) (cell_lt (hb2 i p hp).2)).trans (hb2 i p hp).2⟩⟩
/-- What is no row of texts and no row of segments lies as it lay. -/
def KeepS (w w' : World) : Prop := ∀ k, k < w.heap.size → (∀ c, w.heap[k]? ≠ some (.cells c 9 (0, 0))) → (∀ c, w.heap[k]? ≠ some (.cells c 90 (0, 0))) → w'.heap[k]? = w.heap[k]?
/-- What stands when m segments are marked. -/
structure MI (n₀ k0 b m : Nat) (w W : World) (ps : List (Value × List Value)) (gs : List Seg) : Prop where
  tags : ∀ (i : Nat) (p : Value × List Value), ps[i]? = some p → (∃ t, W.cell? ⟨b, i * 2, none⟩ = some (.string t)) ∧ W.cell? ⟨b, i * 2 + 1, none⟩ = some p.1
  fz : 0 < gs.length → ∀ o, W.frozen? ⟨b, o, none⟩ = false
  done : ∀ (i : Nat) (p : Value × List Value) (g : Seg), ps[i]? = some p → gs[i]? = some g → i < m → W.cell? ⟨b, i * 2, none⟩ = some (.string (mt (k0 + offL gs i))) ∧ MkE (k0 + offL gs i + 1) W p.1 p.2 g.2
  todo : ∀ (i : Nat) (p : Value × List Value) (g : Seg), ps[i]? = some p → gs[i]? = some g → m ≤ i → OwnV n₀ W p.1 p.2 g.2
  bel : Below n₀ w W
  keep : KeepS w W
theorem MI.below {n₀ k0 b m : Nat} {w W W' : World} {ps : List (Value × List Value)} {gs : List Seg} (h : MI n₀ k0 b m w W ps gs) (hn : n₀ ≤ w.heap.size) (hb : Below W.heap.size W W') (hbl : 0 < gs.length → b < W.heap.size) : MI n₀ k0 b m w W' ps gs :=
  ⟨fun i p hp => ⟨(h.tags i p hp).1.imp fun _ ht => (hb.cell (p := ⟨b, i * 2, none⟩) (cell_lt ht)).trans ht, (hb.cell (p := ⟨b, i * 2 + 1, none⟩) (cell_lt (h.tags i p hp).2)).trans (h.tags i p hp).2⟩,
    fun h0 o => (hb.frozen (p := ⟨b, o, none⟩) (hbl h0)).trans (h.fz h0 o),
    fun i p g hp hg hi => ⟨(hb.cell (p := ⟨b, i * 2, none⟩) (cell_lt (h.done i p g hp hg hi).1)).trans (h.done i p g hp hg hi).1, (h.done i p g hp hg hi).2.below hb⟩,
    fun i p g hp hg hi => (h.todo i p g hp hg hi).below hb, h.bel.trans (hb.mono (Nat.le_trans hn h.bel.size)), fun k hk h1 h2 => (hb.block k (Nat.lt_of_lt_of_le hk h.bel.size)).trans (h.keep k hk h1 h2)⟩
theorem MI.tag {n₀ k0 b m : Nat} {w W : World} {ps : List (Value × List Value)} {gs : List Seg} (h : MI n₀ k0 b m w W ps gs) (hb : n₀ ≤ b) (hty : ∃ c, w.heap[b]? = some (.cells c 90 (0, 0)))
    (hO : ∀ (i : Nat) (p : Value × List Value) (g : Seg), ps[i]? = some p → gs[i]? = some g → OwnV n₀ w p.1 p.2 g.2) (p : Value × List Value) (hp : ps[m]? = some p) (t : ByteArray) :
    MI n₀ k0 b m w (W.setCell ⟨b, m * 2, none⟩ (.string t)) ps gs ∧ (W.setCell ⟨b, m * 2, none⟩ (.string t)).cell? ⟨b, m * 2, none⟩ = some (.string t) := by
  obtain ⟨c0, hc0⟩ := hty
  have hne : ∀ (i : Nat) (p : Value × List Value) (g : Seg), ps[i]? = some p → gs[i]? = some g → ∀ x ∈ p.1 :: p.2, x.ownBlock ≠ some b := fun i p g hp hg x hx e => by
    have hOv := hO i p g hp hg
    rcases List.mem_cons.1 hx with rfl | hx
    · obtain ⟨_, _, c, h2⟩ := row_at hOv.row e
      rw [hc0] at h2
      simp at h2
    · obtain ⟨j, hj⟩ := List.getElem?_of_mem hx
      have hlt := (List.getElem?_eq_some_iff.1 hj).1
      rw [hOv.len] at hlt
      obtain ⟨_, _, c, h2⟩ := row_at (hOv.parts j x _ hj (List.getElem?_eq_getElem hlt)).1 e
      rw [hc0] at h2
      simp at h2
  have hsame : (W.setCell ⟨b, m * 2, none⟩ (.string t)).cell? ⟨b, m * 2, none⟩ = some (.string t) := World.cell?_setCell_same' _ _ _ (by obtain ⟨t0, ht0⟩ := (h.tags m p hp).1; rw [ht0]; rfl)
  refine ⟨⟨fun i q hq => ⟨?_, ?_⟩, fun h0 o => by rw [World.frozen?_setCell]; exact h.fz h0 o, fun i q g hq hg hi => ⟨?_, ?_⟩, fun i q g hq hg hi => ?_, h.bel.setCell hb _, fun k hk h1 h2 => (Below.heap_setCell W ⟨b, m * 2, none⟩ _ k (show k ≠ b from fun e => h2 c0 (by rw [e]; exact hc0))).trans (h.keep k hk h1 h2)⟩, hsame⟩
  · by_cases e : i = m
    · subst e
      exact ⟨t, hsame⟩
    · rw [World.cell?_setCell_other _ _ _ _ (by simp <;> omega)]
      exact (h.tags i q hq).1
  · rw [World.cell?_setCell_other _ _ _ _ (by simp <;> omega)]
    exact (h.tags i q hq).2
  · rw [World.cell?_setCell_other _ _ _ _ (by simp <;> omega)]
    exact (h.done i q g hq hg hi).1
  · exact (h.done i q g hq hg hi).2.same fun x hx k hk => Below.heap_setCell W ⟨b, m * 2, none⟩ _ k (show k ≠ b from fun e => hne i q g hq hg x hx (by rw [hk, e]))
  · have hOv := h.todo i q g hq hg hi
    refine ⟨hOv.len, row_same hOv.row fun k hk => Below.heap_setCell W ⟨b, m * 2, none⟩ _ k (show k ≠ b from fun e => hne i q g hq hg q.1 (by simp) (by rw [hk, e])), fun j u y hu hy => ⟨row_same (hOv.parts j u y hu hy).1 fun k hk => Below.heap_setCell W ⟨b, m * 2, none⟩ _ k (show k ≠ b from fun e => hne i q g hq hg u (by simp [List.mem_of_getElem? hu]) (by rw [hk, e])), (hOv.parts j u y hu hy).2⟩, hOv.apart⟩
theorem MI.next {n₀ k0 b m : Nat} {w W W' : World} {ps : List (Value × List Value)} {gs : List Seg} (h : MI n₀ k0 b m w W ps gs) (hty : ∃ c, w.heap[b]? = some (.cells c 90 (0, 0))) (hbl : b < W.heap.size)
    (hO : ∀ (i : Nat) (p : Value × List Value) (g : Seg), ps[i]? = some p → gs[i]? = some g → OwnV n₀ w p.1 p.2 g.2) (hsep : ∀ (i j : Nat) (p q : Value × List Value), i < j → ps[i]? = some p → ps[j]? = some q → ∀ x ∈ p.1 :: p.2, ∀ y ∈ q.1 :: q.2, ∀ b, x.ownBlock = some b → y.ownBlock ≠ some b)
    (p : Value × List Value) (g : Seg) (hp : ps[m]? = some p) (hg : gs[m]? = some g) (htag : W.cell? ⟨b, m * 2, none⟩ = some (.string (mt (k0 + offL gs m)))) (hm : MkE (k0 + offL gs m + 1) W' p.1 p.2 g.2) (hb : Below n₀ W W') (hk : KeepV p.2 W W') : MI n₀ k0 b (m + 1) w W' ps gs := by
  obtain ⟨c0, hc0⟩ := hty
  have hvals : ∀ x ∈ p.2, ∀ k, x.ownBlock = some k → ∃ c, w.heap[k]? = some (.cells c 9 (0, 0)) := fun x hx k e => by
    have hOv := hO m p g hp hg
    obtain ⟨j, hj⟩ := List.getElem?_of_mem hx
    have hlt := (List.getElem?_eq_some_iff.1 hj).1
    rw [hOv.len] at hlt
    obtain ⟨_, _, c, h2⟩ := row_at (hOv.parts j x _ hj (List.getElem?_eq_getElem hlt)).1 e
    exact ⟨c, h2⟩
  have hB : W'.heap[b]? = W.heap[b]? := hk b hbl fun x hx e => by
    obtain ⟨c, hc⟩ := hvals x hx b e
    rw [hc0] at hc
    simp at hc
  have hcell : ∀ o, W'.cell? ⟨b, o, none⟩ = W.cell? ⟨b, o, none⟩ := fun o => World.cell?_of_block (w := W) hB
  have hoth : ∀ (i : Nat) (q : Value × List Value), i ≠ m → ps[i]? = some q → ∀ x ∈ q.1 :: q.2, ∀ k, x.ownBlock = some k → k < W.heap.size → W'.heap[k]? = W.heap[k]? := fun i q hi hq x hx k e hkl => hk k hkl fun y hy e2 => by
    rcases Nat.lt_or_ge i m with h1 | h1
    · exact hsep i m q p h1 hq hp x hx y (List.mem_cons_of_mem _ hy) k e e2
    · exact hsep m i p q (by omega) hp hq y (List.mem_cons_of_mem _ hy) x hx k e2 e
  refine ⟨fun i q hq => ⟨(h.tags i q hq).1.imp fun _ ht => (hcell _).trans ht, (hcell _).trans (h.tags i q hq).2⟩, fun h0 o => (World.frozen?_of_block (w := W) hB).trans (h.fz h0 o), fun i q y hq hy hi => ?_, fun i q y hq hy hi => ?_, h.bel.trans hb, fun k hk' h1 h2 => (hk k (Nat.lt_of_lt_of_le hk' h.bel.size) fun x hx e => ?_).trans (h.keep k hk' h1 h2)⟩
  · by_cases e : i = m
    · subst e
      rw [hp] at hq
      rw [hg] at hy
      cases hq
      cases hy
      exact ⟨(hcell _).trans htag, hm⟩
    · have hd := h.done i q y hq hy (by omega)
      refine ⟨(hcell _).trans hd.1, hd.2.same fun x hx k hk' => hoth i q e hq x hx k hk' ?_⟩
      have := (hO i q y hq hy).base x hx k hk'
      exact Nat.lt_of_lt_of_le this.2 h.bel.size
  · have ht := h.todo i q y hq hy (by omega)
    refine ⟨ht.len, row_same ht.row fun k hk' => hoth i q (by omega) hq q.1 (by simp) k hk' (row_at ht.row hk').2.1, fun j u z hu hz => ⟨row_same (ht.parts j u z hu hz).1 fun k hk' => hoth i q (by omega) hq u (by simp [List.mem_of_getElem? hu]) k hk' (row_at (ht.parts j u z hu hz).1 hk').2.1, (ht.parts j u z hu hz).2⟩, ht.apart⟩
  · obtain ⟨c, hc⟩ := hvals x hx k e
    exact h1 c hc
set_option maxRecDepth 20000 in
set_option maxHeartbeats 2000000 in
theorem markL_any (v : Value) (ps : List (Value × List Value)) (gs : List Seg) (n₀ k0 : Nat) (w : World) (h : OwnL n₀ w v ps gs) (hX : BdLg gs) (hl : gs.length ≤ 2400) (hn : n₀ ≤ w.heap.size) (hk0 : 0 < k0) (hk1 : k0 ≤ 10) :
    Calls Tryz.prog 134 #[v, .int .i64 k0] w fun e w' => e = .returned (.int .i64 ((k0 + offL gs gs.length : Nat) : Int)) ∧ MkL k0 w' v ps gs ∧ Below n₀ w w' ∧ KeepS w w' := by
  have HO : Hid (OwnL n₀ w v ps gs ∧ BdLg gs) := ⟨h, hX⟩
  obtain ⟨A, C, rfl⟩ := h.slice
  obtain ⟨b, hA, hbn, hbt⟩ : ∃ b, (0 < gs.length → A = some ⟨b, 0, none⟩) ∧ (0 < gs.length → n₀ ≤ b ∧ b < w.heap.size) ∧ (0 < gs.length → ∃ c, w.heap[b]? = some (.cells c 90 (0, 0))) := by
    rcases h.row.2 with ⟨_, h0⟩ | ⟨g, cap, cur, e, hb, hgb, _⟩
    · exact ⟨0, fun h => by omega, fun h => by omega, fun h => by omega⟩
    · simp at e
      exact ⟨g, fun _ => e.1, fun _ => ⟨hb, (Array.getElem?_eq_some_iff.1 hgb).1⟩, fun _ => ⟨_, hgb⟩⟩
  have hI0 : MI n₀ k0 b 0 w w ps gs := by
    refine ⟨fun i p hp => ?_, fun h0 o => ?_, fun i p g _ _ hi => by omega, fun i p g hp hg _ => h.segs i p g hp hg, Below.refl _ _, fun _ _ _ _ => rfl⟩
    · have hi : i < gs.length := by rw [← h.len]; exact (List.getElem?_eq_some_iff.1 hp).1
      obtain ⟨k1, k2⟩ := cellsL_get (List.getElem?_eq_getElem hi) hp
      have e := hA (by omega)
      subst e
      have a1 := h.row.cells (g := b) rfl (i * 2) _ k1
      have a2 := h.row.cells (g := b) rfl (i * 2 + 1) _ k2
      rw [addr0] at a1 a2
      exact ⟨⟨_, a1⟩, a2⟩
    · obtain ⟨c, hc⟩ := hbt h0
      simp [World.frozen?, hc]
  have HI0 : Hid (MI n₀ k0 b 0 w w ps gs) := hI0
  have HB : Hid ((0 < gs.length → A = some ⟨b, 0, none⟩) ∧ (0 < gs.length → n₀ ≤ b ∧ b < w.heap.size) ∧ (0 < gs.length → ∃ c, w.heap[b]? = some (.cells c 90 (0, 0)))) := ⟨hA, hbn, hbt⟩
  clear h hX hI0 hA hbn hbt
  go_enter Tryz.func134, Tryz.ntmps134
  go_wp2
  go_loopw [1, 5] (fun kv i wr => ∃ m : Nat, m ≤ gs.length ∧ i = .int .i64 m ∧ kv = .int .i64 ((k0 + offL gs m : Nat) : Int) ∧ MI n₀ k0 b m w wr ps gs) (fun _ i _ => gs.length - (intOf i).toNat)
  case atStart => exact ⟨0, Nat.zero_le _, rfl, by simp [offL_zero], HI0.out⟩
  case round =>
    obtain ⟨m, hm, rfl, rfl, hI⟩ := hrel
    have hof := offL_le HO.out.2 m hm
    clear HI0
    by_cases hlt : m < gs.length
    · have hlt' : (m : Int) < (gs.length : Int) := by omega
      obtain ⟨g, hg⟩ : ∃ g, gs[m]? = some g := ⟨_, List.getElem?_eq_getElem hlt⟩
      obtain ⟨p, hp⟩ : ∃ p, ps[m]? = some p := ⟨_, List.getElem?_eq_getElem (by rw [HO.out.1.len]; exact hlt)⟩
      have hgX := HO.out.2 g (List.mem_of_getElem? hg)
      have hA := HB.out.1 (by omega)
      subst hA
      obtain ⟨hbn, hbw⟩ := HB.out.2.1 (by omega)
      have HI : Hid (MI n₀ k0 b m w wr ps gs ∧ gs[m]? = some g ∧ ps[m]? = some p) := ⟨hI, hg, hp⟩
      have hwr := hI.bel.size
      clear hI hg hp
      go_wp2_with fail
      refine (markText_any (k0 + offL gs m) _ (by omega) (by omega)).mono ?_
      rintro e w2 ⟨rfl, hb2⟩
      have hI2 := HI.out.1.below hn hb2 (fun _ => by omega)
      have hw2 := hb2.size
      obtain ⟨⟨t0, ct⟩, cu⟩ := hI2.tags m p HI.out.2.2
      have zt := hI2.fz (by omega)
      obtain ⟨hI3, ct3⟩ := hI2.tag hbn (HB.out.2.2 (by omega)) HO.out.1.segs p HI.out.2.2 (mt (k0 + offL gs m))
      have cu3 := (hI3.tags m p HI.out.2.2).2
      have hOv := hI3.todo m p g HI.out.2.2 HI.out.2.1 (Nat.le_refl _)
      obtain ⟨Av, Cv, hv, _⟩ := hOv.slice
      have HI3 : Hid (MI n₀ k0 b m w (w2.setCell ⟨b, m * 2, none⟩ (.string (mt (k0 + offL gs m)))) ps gs ∧ (w2.setCell ⟨b, m * 2, none⟩ (.string (mt (k0 + offL gs m)))).cell? ⟨b, m * 2, none⟩ = some (.string (mt (k0 + offL gs m))) ∧ OwnV n₀ (w2.setCell ⟨b, m * 2, none⟩ (.string (mt (k0 + offL gs m)))) p.1 p.2 g.2) := ⟨hI3, ct3, hOv⟩
      rw [hv] at cu cu3
      have HV : Hid (p.1 = .slice Av g.2.length Cv) := hv
      clear hI2 hI3 ct3 hOv hb2 hv
      go_wp2_with fail
      rw [← HV.out]
      refine (markV_any p.1 p.2 g.2 n₀ (k0 + offL gs m + 1) _ HI3.out.2.2 hgX.1 hgX.2.1 (by simp; omega) (by omega) (by omega)).mono ?_
      rintro e w4 ⟨rfl, hm4, hb4, hk4⟩
      have HN : Hid (MI n₀ k0 b (m + 1) w w4 ps gs ∧ offL gs (m + 1) = offL gs m + 1 + offE g.2 g.2.length) := ⟨HI3.out.1.next (HB.out.2.2 (by omega)) (by simp; omega) HO.out.1.segs HO.out.1.sep p g HI.out.2.2 HI.out.2.1 HI3.out.2.1 hm4 hb4 hk4, offL_succ HI.out.2.1⟩
      clear hm4 hb4 hk4 HI HI3
      go_wp2
      go_roundw
      case rel => exact ⟨m + 1, by omega, by go_num, by rw [HN.out.2]; congr 1; omega, HN.out.1⟩
      case measure => simp [intOf]; omega
    · have hge : (gs.length : Int) ≤ (m : Int) := by omega
      obtain rfl : m = gs.length := by omega
      have HI : Hid (MI n₀ k0 b gs.length w wr ps gs) := hI
      clear hI
      go_wp2
      go_ret
      refine ⟨rfl, ⟨HO.out.1.len, ⟨A, C, rfl, fun h0 => ⟨b, HB.out.1 h0, fun i p hp => ?_⟩⟩, fun i p g hp hg => (HI.out.done i p g hp hg (List.getElem?_eq_some_iff.1 hg).1).2⟩, HI.out.bel, HI.out.keep⟩
      have hi : i < gs.length := by rw [← HO.out.1.len]; exact (List.getElem?_eq_some_iff.1 hp).1
      exact ⟨(HI.out.done i p _ hp (List.getElem?_eq_getElem hi) hi).1, (HI.out.tags i p hp).2⟩
set_option maxRecDepth 20000 in
set_option maxHeartbeats 2000000 in
theorem heldL_any (v : Value) (ps : List (Value × List Value)) (gs : List Seg) (k0 : Nat) (w : World) (h : MkL k0 w v ps gs) (hX : BdLg gs) (hl : gs.length ≤ 2400) (hk0 : 0 < k0) (hk1 : k0 ≤ 10) :
    Calls Tryz.prog 135 #[v, .int .i64 k0] w fun e w' => e = .returned (.int .i64 ((k0 + offL gs gs.length : Nat) : Int)) ∧ Below w.heap.size w w' := by
  have HO : Hid (MkL k0 w v ps gs ∧ BdLg gs) := ⟨h, hX⟩
  obtain ⟨A, C, rfl, _⟩ := h.at_
  clear h hX
  go_enter Tryz.func135, Tryz.ntmps135
  go_wp2
  go_loopw [1, 5] (fun kv i wr => ∃ m : Nat, m ≤ gs.length ∧ i = .int .i64 m ∧ kv = .int .i64 ((k0 + offL gs m : Nat) : Int) ∧ Below w.heap.size w wr) (fun _ i _ => gs.length - (intOf i).toNat)
  case atStart => exact ⟨0, Nat.zero_le _, rfl, by simp [offL_zero], Below.refl _ _⟩
  case round =>
    obtain ⟨m, hm, rfl, rfl, hb⟩ := hrel
    have hof := offL_le HO.out.2 m hm
    by_cases hlt : m < gs.length
    · have hlt' : (m : Int) < (gs.length : Int) := by omega
      have hK := HO.out.1.below hb
      obtain ⟨g, hg⟩ : ∃ g, gs[m]? = some g := ⟨_, List.getElem?_eq_getElem hlt⟩
      obtain ⟨p, hp⟩ : ∃ p, ps[m]? = some p := ⟨_, List.getElem?_eq_getElem (by rw [HO.out.1.len]; exact hlt)⟩
      have hgX := HO.out.2 g (List.mem_of_getElem? hg)
      obtain ⟨A', C', hv, hA⟩ := hK.at_
      obtain ⟨b, hA', hc'⟩ := hA (by omega)
      simp at hv
      obtain ⟨rfl, rfl⟩ := hv
      subst hA'
      obtain ⟨ct, cu⟩ := hc' m p hp
      have hbl := cell_lt ct
      have hmk := hK.segs m p g hp hg
      obtain ⟨Av, Cv, hv, _⟩ := hmk.at_
      rw [hv] at cu
      have HS : Hid (MkE (k0 + offL gs m + 1) wr p.1 p.2 g.2 ∧ Below w.heap.size w wr ∧ offL gs (m + 1) = offL gs m + 1 + offE g.2 g.2.length ∧ p.1 = .slice Av g.2.length Cv) := ⟨hmk, hb, offL_succ hg, hv⟩
      clear hK hmk hb hg hp hA hc' hv
      go_wp2_with fail
      go_region_held3 (fun W => W.cell? ⟨b, m * 2, none⟩ = some (.string (mt (k0 + offL gs m)))) (go_keep) (first | (go_at_call 88; refine (markText_any (k0 + offL gs m) _ (by omega) (by omega)).mono ?_; rintro e w3 ⟨rfl, hb3⟩; have ku3 := (hb3.cell (p := ⟨b, m * 2, none⟩) hbl).trans (show wr.drew.cell? ⟨b, m * 2, none⟩ = _ from ct)))
      have hb3' : Below wr.heap.size wr w3 := (Below.refl _ _).drew.trans hb3
      have cu3 : w3.cell? ⟨b, m * 2 + 1, none⟩ = some (.slice Av g.2.length Cv) := (hb3'.cell (p := ⟨b, m * 2 + 1, none⟩) hbl).trans cu
      have HT : Hid (MkE (k0 + offL gs m + 1) w3 p.1 p.2 g.2 ∧ Below w.heap.size w w3) := ⟨HS.out.1.below hb3', HS.out.2.1.trans (hb3'.mono HS.out.2.1.size)⟩
      clear hb3 hb3'
      go_wp2_with fail
      rw [← HS.out.2.2.2]
      refine (heldE_any p.1 p.2 g.2 (k0 + offL gs m + 1) _ HT.out.1 hgX.1 hgX.2.1 (by omega) (by omega)).mono ?_
      rintro e1 w4 ⟨rfl, hb4⟩
      have HN : Hid (Below w.heap.size w w4 ∧ offL gs (m + 1) = offL gs m + 1 + offE g.2 g.2.length) := ⟨HT.out.2.trans (hb4.mono HT.out.2.size), HS.out.2.2.1⟩
      clear HS HT hb4
      go_wp2
      go_roundw
      case rel => exact ⟨m + 1, by omega, by go_num, by rw [HN.out.2]; congr 1; omega, HN.out.1⟩
      case measure => simp [intOf]; omega
    · have hge : (gs.length : Int) ≤ (m : Int) := by omega
      obtain rfl : m = gs.length := by omega
      have HB : Hid (Below w.heap.size w wr) := hb
      clear hb
      go_wp2
      go_ret
      exact ⟨rfl, HB.out⟩
theorem OwnL.rowG {n₀ : Nat} {W : World} {v : Value} {ps : List (Value × List Value)} {gs : List Seg} (h : OwnL n₀ W v ps gs) (hX : BdLg gs) (hl : gs.length ≤ 2400) : RowG W v gs := by
  refine ⟨?_, by omega, fun i g hi => by have := (hX g (List.mem_of_getElem? hi)).2.2; omega⟩
  rcases h.row.2 with ⟨rfl, h0⟩ | ⟨g, cap, cur, rfl, _⟩
  · exact ⟨none, 0, by rw [h0], fun hn => absurd (List.length_eq_zero_iff.1 h0) hn⟩
  · refine ⟨_, _, rfl, fun _ => ⟨g, 0, rfl, fun i y hi => ?_⟩⟩
    have hlt := (List.getElem?_eq_some_iff.1 hi).1
    obtain ⟨p, hp⟩ : ∃ p, ps[i]? = some p := ⟨_, List.getElem?_eq_getElem (by rw [h.len]; exact hlt)⟩
    obtain ⟨k1, k2⟩ := cellsL_get hi hp
    have a1 := h.row.cells (g := g) rfl (i * 2) _ k1
    have a2 := h.row.cells (g := g) rfl (i * 2 + 1) _ k2
    rw [addr0] at a1 a2
    have hy := hX y (List.mem_of_getElem? hi)
    rw [Nat.zero_add]
    exact ⟨a1, p.1, a2, (h.segs i p y hp hi).rowE hy.1 (by omega)⟩
end Go.Proofs.YtkaolpnbddjdpaaGreatDoor
