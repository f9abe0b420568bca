/- Texts of ours put together: ShForm, FormI, TakeI. -/
import Derived.Shelf.LaysM
import Derived.Shelf.Strings.SlTrimAscii
import Derived.Shelf.Strings.Search2
import Derived.Test.YtkaolpnbddjdpaaGreatDoorRows
import Derived.Test.YtkaolpnbddjdpaaGreatDoorG04
import Derived.Deep.QuietTactic
import Derived.BigQuiet
import Derived.Deep.RegionHeld3
import Derived.Test.YtkaolpnbddjdpaaGreatDoorG06
namespace Go.Proofs.YtkaolpnbddjdpaaGreatDoor
open Go.Shelf Go.RowKit Go.Lib
def lays160_ren : Go.Shelf.Ren := ⟨fun | 160 => 210 | 232 => 221 | 231 => 220 | 227 => 222 | 234 => 224 | 233 => 223 | 236 => 226 | 235 => 225 | 228 => 237 | 271 => 240 | 151 => 239 | 197 => 238 | 120 => 248 | 152 => 247 | 260 => 246 | 137 => 250 | 119 => 251 | 224 => 216 | 225 => 215 | 217 => 214 | 266 => 235 | n => n, fun | 9 => 9 | 4 => 4 | 3 => 3 | 5 => 5 | 117 => 259 | 116 => 258 | 0 => 0 | 124 => 262 | 21 => 21 | 105 => 273 | 46 => 86 | 119 => 285 | 139 => 288 | 138 => 287 | n => n, fun | 3 => 7 | 4 => 8 | n => n⟩
theorem lays160 : Go.Proofs.Lays.n160 Tryz.prog lays160_ren := {
  mixed := by kernel_rfl
  f119 := Tryz.func251.trans (congrArg some (by kernel_rfl))
  f120 := Tryz.func248.trans (congrArg some (by kernel_rfl))
  f137 := Tryz.func250.trans (congrArg some (by kernel_rfl))
  f151 := Tryz.func239.trans (congrArg some (by kernel_rfl))
  f152 := Tryz.func247.trans (congrArg some (by kernel_rfl))
  f160 := Tryz.func210.trans (congrArg some (by kernel_rfl))
  f197 := Tryz.func238.trans (congrArg some (by kernel_rfl))
  f217 := Tryz.func214.trans (congrArg some (by kernel_rfl))
  f224 := Tryz.func216.trans (congrArg some (by kernel_rfl))
  f225 := Tryz.func215.trans (congrArg some (by kernel_rfl))
  f227 := Tryz.func222.trans (congrArg some (by kernel_rfl))
  f228 := Tryz.func237.trans (congrArg some (by kernel_rfl))
  f231 := Tryz.func220.trans (congrArg some (by kernel_rfl))
  f232 := Tryz.func221.trans (congrArg some (by kernel_rfl))
  f233 := Tryz.func223.trans (congrArg some (by kernel_rfl))
  f234 := Tryz.func224.trans (congrArg some (by kernel_rfl))
  f235 := Tryz.func225.trans (congrArg some (by kernel_rfl))
  f236 := Tryz.func226.trans (congrArg some (by kernel_rfl))
  f260 := Tryz.func246.trans (congrArg some (by kernel_rfl))
  f266 := Tryz.func235.trans (congrArg some (by kernel_rfl))
  f271 := Tryz.func240.trans (congrArg some (by kernel_rfl))
  t0 := Tryz.underlying0
  a0 := Tryz.isAgg0
  z0 := Tryz.sizeOf0
  v0 := Tryz.zeroValue0
  t3 := Tryz.underlying3
  a3 := Tryz.isAgg3
  z3 := Tryz.sizeOf3
  v3 := Tryz.zeroValue3
  t4 := Tryz.underlying4
  a4 := Tryz.isAgg4
  z4 := Tryz.sizeOf4
  v4 := Tryz.zeroValue4
  t5 := Tryz.underlying5
  a5 := Tryz.isAgg5
  z5 := Tryz.sizeOf5
  v5 := Tryz.zeroValue5
  t9 := Tryz.underlying9
  a9 := Tryz.isAgg9
  z9 := Tryz.sizeOf9
  v9 := Tryz.zeroValue9
  t21 := Tryz.underlying21
  a21 := Tryz.isAgg21
  z21 := Tryz.sizeOf21
  v21 := Tryz.zeroValue21
  t46 := Tryz.underlying86
  a46 := Tryz.isAgg86
  z46 := Tryz.sizeOf86
  v46 := Tryz.zeroValue86
  t105 := Tryz.underlying273
  a105 := Tryz.isAgg273
  z105 := Tryz.sizeOf273
  v105 := Tryz.zeroValue273
  t116 := Tryz.underlying258
  a116 := Tryz.isAgg258
  z116 := Tryz.sizeOf258
  t117 := Tryz.underlying259
  a117 := Tryz.isAgg259
  z117 := Tryz.sizeOf259
  v117 := Tryz.zeroValue259
  t119 := Tryz.underlying285
  a119 := Tryz.isAgg285
  z119 := Tryz.sizeOf285
  t124 := Tryz.underlying262
  a124 := Tryz.isAgg262
  z124 := Tryz.sizeOf262
  v124 := Tryz.zeroValue262
  t138 := Tryz.underlying287
  a138 := Tryz.isAgg287
  z138 := Tryz.sizeOf287
  v138 := Tryz.zeroValue287
  t139 := Tryz.underlying288
  a139 := Tryz.isAgg288
  z139 := Tryz.sizeOf288
  v139 := Tryz.zeroValue288
  g3 := by kernel_rfl
  g4 := by kernel_rfl }
def lays219_ren : Go.Shelf.Ren := ⟨fun | 219 => 205 | 217 => 214 | 225 => 215 | 224 => 216 | 267 => 217 | 266 => 235 | 314 => 236 | n => n, fun | 9 => 9 | 3 => 3 | 4 => 4 | 5 => 5 | 46 => 86 | 146 => 270 | 51 => 238 | n => n, fun | 1 => 2 | n => n⟩
theorem lays219 : Go.Proofs.Lays.n219 Tryz.prog lays219_ren := {
  mixed := by kernel_rfl
  f217 := Tryz.func214.trans (congrArg some (by kernel_rfl))
  f219 := Tryz.func205.trans (congrArg some (by kernel_rfl))
  f224 := Tryz.func216.trans (congrArg some (by kernel_rfl))
  f225 := Tryz.func215.trans (congrArg some (by kernel_rfl))
  f266 := Tryz.func235.trans (congrArg some (by kernel_rfl))
  f267 := Tryz.func217.trans (congrArg some (by kernel_rfl))
  f314 := Tryz.func236.trans (congrArg some (by kernel_rfl))
  t3 := Tryz.underlying3
  a3 := Tryz.isAgg3
  z3 := Tryz.sizeOf3
  v3 := Tryz.zeroValue3
  t4 := Tryz.underlying4
  a4 := Tryz.isAgg4
  z4 := Tryz.sizeOf4
  v4 := Tryz.zeroValue4
  t5 := Tryz.underlying5
  a5 := Tryz.isAgg5
  z5 := Tryz.sizeOf5
  v5 := Tryz.zeroValue5
  t9 := Tryz.underlying9
  a9 := Tryz.isAgg9
  z9 := Tryz.sizeOf9
  v9 := Tryz.zeroValue9
  t46 := Tryz.underlying86
  a46 := Tryz.isAgg86
  z46 := Tryz.sizeOf86
  v46 := Tryz.zeroValue86
  t51 := Tryz.underlying238
  a51 := Tryz.isAgg238
  z51 := Tryz.sizeOf238
  v51 := Tryz.zeroValue238
  t146 := Tryz.underlying270
  a146 := Tryz.isAgg270
  z146 := Tryz.sizeOf270
  v146 := Tryz.zeroValue270
  g1 := by kernel_rfl }
end Go.Proofs.YtkaolpnbddjdpaaGreatDoor
namespace Go.Proofs.YtkaolpnbddjdpaaGreatDoor
open Go.ChangeShapes Go.WideShapes Go.ChangeAt Go.RowKit
theorem trim_any (s : ByteArray) (w : World) (hs : s.size ≤ 9223372036854775807) :
    Calls Tryz.prog 210 #[.string s, .string ⟨#[114, 110, 113, 122, 100, 116]⟩] w fun e w' => ∃ t, e = .returned (.string t) ∧ Hid (t.toList.isEmpty = s.data.toList.all ltB) ∧ Below w.heap.size w w' := by
  refine (Any.strings_Trim_laid lays160 (by kernel_rfl) s ⟨#[114, 110, 113, 122, 100, 116]⟩ w hs (by decide) (ascii_of_all (by decide))).mono ?_
  rintro e w' ⟨rfl, hb⟩
  refine ⟨_, rfl, ?_, hb⟩
  show (ByteArray.mk _).toList.isEmpty = _
  rw [Lib.toList_data, Bool.eq_iff_iff, List.isEmpty_iff]
  exact trimS_empty s.data.toList
theorem index_ge (l : List UInt8) : -1 ≤ Lib.indexByte l 63 := by
  induction l with
  | nil => unfold Lib.indexByte; omega
  | cons b l ih =>
    unfold Lib.indexByte
    split
    · omega
    · split
      · omega
      · omega
theorem index_none (l : List UInt8) : Lib.indexByte l 63 < 0 → ∀ c ∈ l, c ≠ 63 := by
  induction l with
  | nil => intro _ c hc; cases hc
  | cons b l ih =>
    intro h
    unfold Lib.indexByte at h
    have hg := index_ge l
    split at h
    · omega
    · rename_i hb
      split at h
      · rename_i h1
        have h1' : Lib.indexByte l 63 = -1 := beq_iff_eq.1 h1
        intro c hc
        rcases List.mem_cons.1 hc with rfl | hc
        · intro e; subst e; exact hb rfl
        · exact ih (by omega) c hc
      · omega
theorem index_at (l : List UInt8) : ∀ (k : Nat), Lib.indexByte l 63 = (k : Int) → k < l.length ∧ l = l.take k ++ 63 :: l.drop (k + 1) ∧ ∀ c ∈ l.take k, c ≠ 63 := by
  induction l with
  | nil => intro k h; unfold Lib.indexByte at h; omega
  | cons b l ih =>
    intro k h
    unfold Lib.indexByte at h
    have hg := index_ge l
    split at h
    · rename_i hb
      obtain rfl : k = 0 := by omega
      have : b = 63 := beq_iff_eq.1 hb
      subst this
      exact ⟨by simp, by simp, by simp⟩
    · rename_i hb
      split at h
      · omega
      · rename_i h1
        have h1' : Lib.indexByte l 63 ≠ -1 := fun e => h1 (by rw [e]; rfl)
        obtain ⟨j, rfl⟩ : ∃ j, k = j + 1 := ⟨k - 1, by omega⟩
        obtain ⟨h1, h2, h3⟩ := ih j (by omega)
        refine ⟨by simp; omega, ?_, ?_⟩
        · simp only [List.take_succ_cons, List.drop_succ_cons, List.cons_append]
          rw [← h2]
        · intro c hc
          simp only [List.take_succ_cons] at hc
          rcases List.mem_cons.1 hc with rfl | hc
          · intro e; subst e; exact hb rfl
          · exact h3 c hc
/-- The two sides of a form's mark. -/
structure Cut2 (f n s : ByteArray) : Prop where
  form : formF f.data.toList = if (n ++ s).data.toList.all ltB then some ((n ++ s).data.toList, n.size) else none
  size : n.size + s.size ≤ f.size
set_option maxHeartbeats 1000000 in
theorem cutLite_any (f : ByteArray) (w : World) (hf : f.size ≤ 20000) :
    Calls Tryz.prog 219 #[.string f, .string ⟨#[63]⟩] w fun e w' => ∃ n s b, e = .returned (.tuple #[.string n, .string s, .bool b]) ∧ Cut2 f n s ∧ Below w.heap.size w w' := by
  go_enter Tryz.func219, Tryz.ntmps219
  go_wp2_with fail
  refine (Any.stringslite_Index_one lays219 f 63 w).mono ?_
  rintro e w1 ⟨rfl, rfl⟩
  rcases Int.lt_or_le (Lib.indexByte f.data.toList 63) 0 with h | h
  · have HC : Hid (Cut2 f f ⟨#[]⟩) := by
      refine ⟨?_, Nat.le_refl _⟩
      have e : (f ++ (⟨#[]⟩ : ByteArray)).data.toList = f.data.toList := by simp [ByteArray.data_append]
      rw [e]
      exact formF_whole _ (index_none _ h)
    generalize Lib.indexByte f.data.toList 63 = i at *
    go_wp2
    go_ret3
    exact ⟨_, _, _, rfl, HC.out, Below.refl _ _⟩
  · obtain ⟨k, hk⟩ : ∃ k : Nat, Lib.indexByte f.data.toList 63 = k := ⟨_, (Int.toNat_of_nonneg h).symm⟩
    obtain ⟨hkl, hl, hnn⟩ := index_at _ k hk
    have hkl' : k < f.size := hkl
    have HC : Hid (Cut2 f (f.extract 0 k) (f.extract (k + 1) f.size)) := by
      have e1 : (f.extract 0 k).data.toList = f.data.toList.take k := by rw [Lib.extract_data]; simp
      have e2 : (f.extract (k + 1) f.size).data.toList = f.data.toList.drop (k + 1) := by
        rw [Lib.extract_data]
        exact List.take_of_length_le (by simp)
      have e3 : (f.extract 0 k ++ f.extract (k + 1) f.size).data.toList = f.data.toList.take k ++ f.data.toList.drop (k + 1) := by rw [ByteArray.data_append, Array.toList_append, e1, e2]
      refine ⟨?_, ?_⟩
      · rw [e3]
        conv => lhs; rw [hl]
        rw [formF_cut _ _ hnn]
        have e4 : (f.data.toList.take k).length = (f.extract 0 k).size := by rw [← e1]; rfl
        rw [e4]
      · simp
        omega
    rw [hk]
    clear hl hnn hkl h hk
    have hk1 : (k : Int) < (f.size : Int) := by omega
    have hk2 : (k : Int) ≤ (f.size : Int) := by omega
    have hk3 : (k : Int) + 1 ≤ (f.size : Int) := by omega
    go_wp2_with fail
    go_quiet (fail)
    go_wp2
    go_ret3
    exact ⟨_, _, _, rfl, HC.out, below_drewN (Below.refl _ _) _⟩
set_option maxHeartbeats 1000000 in
theorem cut_any (f : ByteArray) (w : World) (hf : f.size ≤ 20000) :
    Calls Tryz.prog 209 #[.string f, .string ⟨#[63]⟩] w fun e w' => ∃ n s b, e = .returned (.tuple #[.string n, .string s, .bool b]) ∧ Cut2 f n s ∧ Below w.heap.size w w' := by
  go_enter Tryz.func209, Tryz.ntmps209
  go_wp2_with fail
  refine (cutLite_any f w hf).mono ?_
  rintro e w1 ⟨n, s, b, rfl, hC, hb⟩
  go_wp2
  go_ret3
  exact ⟨_, _, _, rfl, hC, hb⟩
/-- What formOf tells. -/
def FmO (f : ByteArray) (ls : ByteArray) (m : Nat) (b : Bool) : Prop := if b then formF f.data.toList = some (ls.data.toList, m) ∧ ls.size ≤ 20000 ∧ m ≤ 20000 else formF f.data.toList = none
set_option maxHeartbeats 1000000 in
theorem formOf_any (f : ByteArray) (w : World) (hf : f.size ≤ 20000) :
    Calls Tryz.prog 202 #[.string f] w fun e w' => ∃ (ls : ByteArray) (m : Nat) (b : Bool), e = .returned (.tuple #[.string ls, .int .i64 (m : Int), .bool b]) ∧ FmO f ls m b ∧ Below w.heap.size w w' := by
  go_enter Tryz.func202, Tryz.ntmps202
  go_wp2_with fail
  refine (cut_any f w hf).mono ?_
  rintro e w1 ⟨n, s, b, rfl, hC, hb⟩
  have hsz := hC.size
  have hns : n.size + s.size ≤ 9223372036854775807 := by omega
  have HC : Hid (Cut2 f n s) := hC
  have hzz : (n ++ s).size ≤ 20000 := by rw [ByteArray.size_append]; omega
  clear hC
  go_wp2_with fail
  refine (trim_any (n ++ s) w1 (by omega)).mono ?_
  rintro e w2 ⟨t, rfl, ht, hb2⟩
  have HB : Hid (Below w.heap.size w w2) := hb.trans (hb2.mono hb.size)
  clear hb hb2
  cases he : t.toList.isEmpty with
  | true =>
    have HF : Hid (FmO f (n ++ s) n.size true) := by
      refine ⟨?_, hzz, by omega⟩
      have h1 := HC.out.form
      rw [← ht.out, he] at h1
      exact h1
    go_wp2
    go_ret3
    exact ⟨_, n.size, _, rfl, HF.out, HB.out⟩
  | false =>
    have HF : Hid (FmO f ⟨#[]⟩ 0 false) := by
      have h1 := HC.out.form
      rw [← ht.out, he] at h1
      exact h1
    go_wp2
    go_ret3
    exact ⟨_, 0, _, rfl, HF.out, HB.out⟩
theorem not_bad {ls : List UInt8} {es : List (List ByteArray)} {k : Nat} {c : UInt8} {e : List ByteArray} (hc : ls[k]? = some c) (he : es[k]? = some e) (h : elemB (c.toNat : Int) e = true) : ¬ badAt ls es k := by
  have hk := (List.getElem?_eq_some_iff.1 hc).1
  unfold badAt
  rw [hc, he]
  simp only [Option.getD_some]
  rintro (g | g)
  · omega
  · rw [h] at g; cases g
theorem is_bad {ls : List UInt8} {es : List (List ByteArray)} {k : Nat} {c : UInt8} {e : List ByteArray} (hc : ls[k]? = some c) (he : es[k]? = some e) (h : elemB (c.toNat : Int) e = false) : badAt ls es k := by
  unfold badAt
  rw [hc, he]
  exact .inr h
theorem letter_at {f ls : ByteArray} {m : Nat} (h : formF f.data.toList = some (ls.data.toList, m)) {k : Nat} (hk : k < ls.size) : letterB ((ls[k]'hk).toNat : Int) = true := by
  have ha := formF_all h
  exact List.all_eq_true.1 ha (ls.data.toList[k]) (List.getElem_mem (show k < ls.data.toList.length from hk))
set_option maxHeartbeats 4000000 in
theorem formRight_impl (f tag : ByteArray) (v : Value) (es : List (List ByteArray)) (w : World) (hfs : f.size ≤ 1048576) (h : RowE w v es) (hB : BdE 1048576 es) (hE : ErrsAt w) :
    Calls Tryz.prog 191 #[.string f, .agg #[.string tag, v]] w fun e w' => ∃ r : Int, e = .returned (.int .i64 r) ∧ FrO f es r ∧ Below w.heap.size w w' := by
  obtain ⟨a, cap, rfl⟩ := h.val
  by_cases hf : 20000 < f.size
  · have hf' : (20000 : Int) < (f.size : Int) := by omega
    clear h
    go_enter Tryz.func191, Tryz.ntmps191
    go_wp2
    go_ret
    exact ⟨0, rfl, FrO.big hf, (Below.refl _ _).alloc (Nat.le_refl _) _⟩
  · have hf' : (f.size : Int) ≤ 20000 := by omega
    have b0 : Below w.heap.size w (w.alloc (.cells #[.string tag, .slice a es.length cap] 90)) := (Below.refl _ _).alloc (Nat.le_refl _) _
    go_enter Tryz.func191, Tryz.ntmps191
    go_wp2_with fail
    refine (formOf_any f _ (by omega)).mono ?_
    rintro e w1 ⟨ls, m, b, rfl, hF, hb⟩
    cases b with
    | false =>
      have HB : Hid (Below w.heap.size w w1) := b0.trans (hb.mono (by simp))
      clear hb h
      go_wp2
      go_ret
      exact ⟨0, rfl, FrO.none_ (by omega) hF, HB.out⟩
    | true =>
      have HB : Hid (Below w.heap.size w w1 ∧ RowE w1 (.slice a es.length cap) es ∧ ErrsAt w1 ∧ formF f.data.toList = some (ls.data.toList, m)) := by
        have b1 := b0.trans (hb.mono (by simp))
        exact ⟨b1, h.below b1, hE.below b1, hF.1⟩
      have hls := hF.2.1
      have hm := hF.2.2
      have d1 : w1.cell? ⟨w.heap.size, 1, none⟩ = some (.slice a es.length cap) := (hb.cell (p := ⟨w.heap.size, 1, none⟩) (by simp)).trans (by simp [go_sem])
      have hes := hB.1
      clear hb h hE b0 hF
      go_wp2_with fail
      go_loopw [24] (fun i wr => ∃ k : Nat, i = .int .i64 (k : Int) ∧ k ≤ es.length ∧ (∀ j, j < k → ¬ badAt ls.data.toList es j) ∧ Below w1.heap.size w1 wr) (fun i _ => es.length - (intOf i).toNat)
      case atStart => exact ⟨0, rfl, by omega, fun j h => by omega, Below.refl _ _⟩
      case round =>
        obtain ⟨k, rfl, hk, hA, hb⟩ := hrel
        have HA : Hid ((∀ j, j < k → ¬ badAt ls.data.toList es j) ∧ Below w1.heap.size w1 wr) := ⟨hA, hb⟩
        have hwz := hb.size
        have d2 : wr.cell? ⟨w.heap.size, 1, none⟩ = some (.slice a es.length cap) := (hb.cell (cell_lt d1)).trans d1
        clear hA
        by_cases hlt : k < es.length
        · have hlt' : (k : Int) < (es.length : Int) := by omega
          obtain ⟨b, o, c1, e, u, hv, he, hc, hu⟩ := (HB.out.2.1.below hb).at hlt
          simp only [Value.slice.injEq, true_and] at hv
          obtain ⟨rfl, rfl⟩ := hv
          have hue : ErrsAt wr := HB.out.2.2.1.below hb
          have hBe : BdS 1048576 e := hB.2 k e he
          have He : Hid (es[k]? = some e) := he
          clear he hb
          obtain ⟨ua, uc, rfl⟩ := hu.val
          by_cases hkl : k < ls.size
          · have hkl' : ((k : Int) == (ls.size : Int)) = false := by rw [beq_eq_false_iff_ne]; omega
            have hkl2 : (k : Int) < (ls.size : Int) := by omega
            have hlt2 := letter_at HB.out.2.2.2 hkl
            have bA : Below wr.heap.size wr (wr.alloc (.cells #[.slice ua e.length uc] 141)) := (Below.refl _ _).alloc (Nat.le_refl _) _
            have hu2 := hu.below bA
            have hue2 := hue.below bA
            have hnew : (wr.alloc (.cells #[.slice ua e.length uc] 141)).cell? ⟨wr.heap.size, 0, none⟩ = some (.slice ua e.length uc) := by simp [go_sem]
            have hx0 : 0 ≤ ((ls[k]'hkl).toNat : Int) := by omega
            have hx1 : ((ls[k]'hkl).toNat : Int) ≤ 255 := by have := (ls[k]'hkl).toNat_lt; omega
            have HK : Hid (ls.data.toList[k]? = some (ls[k]'hkl)) := List.getElem?_eq_getElem (show k < ls.data.toList.length from hkl)
            go_wp2_with fail
            generalize wr.alloc (.cells #[.slice ua e.length uc] 141) = WA at *
            have hgl := cell_lt hnew
            clear hc d1 d2 hu hue
            cases hbv : elemB ((ls[k]'hkl).toNat : Int) e with
            | true =>
              go_region_held3 (fun w' => w'.cell? ⟨wr.heap.size, 0, none⟩ = some (.slice ua e.length uc)) (go_keep) (first | (go_at_call 203; refine (isOf_any _ _ e _ hlt2 (hu2.below (Below.refl _ _).drew) hBe (hue2.below (Below.refl _ _).drew)).mono ?_; rintro e1 w3 ⟨rfl, hb3⟩; rw [hbv]; have ku3 := (hb3.cell (p := ⟨wr.heap.size, 0, none⟩) hgl).trans (show WA.drew.cell? ⟨wr.heap.size, 0, none⟩ = _ from hnew)))
              have HW : Hid (Below w1.heap.size w1 w3) := HA.out.2.trans ((bA.trans ((Below.refl _ WA).drew.mono (bA.size))).trans (hb3.mono bA.size) |>.mono hwz)
              clear hb3 bA hu2 hue2
              go_wp2
              go_roundw
              case rel =>
                refine ⟨k + 1, by go_num, by omega, fun j hj => ?_, HW.out⟩
                rcases Nat.lt_or_ge j k with g | g
                · exact HA.out.1 j g
                · obtain rfl : j = k := by omega
                  exact not_bad HK.out He.out hbv
              case measure => simp [intOf]; omega
            | false =>
              go_region_held3 (fun w' => w'.cell? ⟨wr.heap.size, 0, none⟩ = some (.slice ua e.length uc)) (go_keep) (first | (go_at_call 203; refine (isOf_any _ _ e _ hlt2 (hu2.below (Below.refl _ _).drew) hBe (hue2.below (Below.refl _ _).drew)).mono ?_; rintro e1 w3 ⟨rfl, hb3⟩; rw [hbv]; have ku3 := (hb3.cell (p := ⟨wr.heap.size, 0, none⟩) hgl).trans (show WA.drew.cell? ⟨wr.heap.size, 0, none⟩ = _ from hnew)))
              have HW : Hid (Below w1.heap.size w1 w3) := HA.out.2.trans ((bA.trans ((Below.refl _ WA).drew.mono (bA.size))).trans (hb3.mono bA.size) |>.mono hwz)
              clear hb3 bA hu2 hue2
              go_wp2
              go_ret
              exact ⟨(k : Int), rfl, FrO.some_ (by omega) HB.out.2.2.2 (.inl ⟨k, hlt, rfl, is_bad HK.out He.out hbv, HA.out.1⟩), HB.out.1.trans (HW.out.mono HB.out.1.size)⟩
          · have hkl' : ((k : Int) == (ls.size : Int)) = true := by
              rw [beq_iff_eq]
              have hge : ¬ ls.size < k := fun g => HA.out.1 ls.size g (.inl (Nat.le_refl _))
              omega
            have HBd : Hid (badAt ls.data.toList es k) := .inl (by have e : ls.data.toList.length = ls.size := rfl; omega)
            have HW : Hid (Below w.heap.size w (wr.alloc (.cells #[.slice ua e.length uc] 141))) := HB.out.1.trans ((HA.out.2.alloc hwz _).mono HB.out.1.size)
            go_wp2_with fail
            generalize wr.alloc (.cells #[.slice ua e.length uc] 141) = WA at *
            clear hc d1 d2 hu hue hkl
            go_quiet (fail)
            go_wp2
            go_ret
            exact ⟨(k : Int), rfl, FrO.some_ (by omega) HB.out.2.2.2 (.inl ⟨k, hlt, rfl, HBd.out, HA.out.1⟩), by first | exact below_drewN HW.out _ | exact HW.out⟩
        · obtain rfl : k = es.length := by omega
          have HW : Hid (Below w.heap.size w wr) := HB.out.1.trans (HA.out.2.mono HB.out.1.size)
          clear hb
          by_cases hml : es.length < m
          · have hml' : (es.length : Int) < (m : Int) := by omega
            go_wp2
            go_ret
            exact ⟨_, rfl, FrO.some_ (by omega) HB.out.2.2.2 (.inr ⟨HA.out.1, .inl ⟨hml, rfl⟩⟩), HW.out⟩
          · have hml' : (m : Int) ≤ (es.length : Int) := by omega
            go_wp2
            go_ret
            exact ⟨_, rfl, FrO.some_ (by omega) HB.out.2.2.2 (.inr ⟨HA.out.1, .inr ⟨by omega, rfl⟩⟩), HW.out⟩
end Go.Proofs.YtkaolpnbddjdpaaGreatDoor
namespace Go.Proofs.YtkaolpnbddjdpaaGreatDoor
open Go.ChangeShapes Go.WideShapes Go.ChangeAt Go.RowKit
set_option maxHeartbeats 4000000 in
theorem take_any (r : TRow) (v : Value) (gs : List Seg) (w : World) (h : RowG w v gs) (hG : BdG 1048576 gs) (hl : gs.length ≤ 400) (hf : r.form.length ≤ 1048576) (hE : ErrsAt w) :
    Calls Tryz.prog 175 #[.agg #[.string (bs r.tag), .int .i64 r.least, .int .i64 r.most, .string (bs r.form)], v] w fun e w' => e = .returned (.tuple #[.int .i64 ((tk r gs 0).1 : Int), .int .i64 (tk r gs 0).2]) ∧ Below w.heap.size w w' := by
  obtain ⟨a, cap, rfl⟩ := h.val
  have b0 : Below w.heap.size w (w.alloc (.cells #[.string (bs r.tag), .int .i64 r.least, .int .i64 r.most, .string (bs r.form)] 189)) := (Below.refl _ _).alloc (Nat.le_refl _) _
  have H : Hid (RowG (w.alloc (.cells #[.string (bs r.tag), .int .i64 r.least, .int .i64 r.most, .string (bs r.form)] 189)) (.slice a gs.length cap) gs ∧ ErrsAt (w.alloc (.cells #[.string (bs r.tag), .int .i64 r.least, .int .i64 r.most, .string (bs r.form)] 189)) ∧ BdG 1048576 gs) := ⟨h.below b0, hE.below b0, hG⟩
  clear h hE hG
  have hfz : (bs r.form).size ≤ 1048576 := hf
  generalize hP : tk r gs 0 = P
  have HP : Hid (tk r gs 0 = P) := hP
  clear hP
  go_enter Tryz.func175, Tryz.ntmps175
  go_wp2_with fail
  go_loopw [6, 12] (fun cv i wr => ∃ k : Nat, cv = .int .i64 (k : Int) ∧ i = .int .i64 (k : Int) ∧ k ≤ gs.length ∧ tk r (gs.drop k) k = P ∧ Below (w.heap.size + 1) (w.alloc (.cells #[.string (bs r.tag), .int .i64 r.least, .int .i64 r.most, .string (bs r.form)] 189)) wr) (fun _ i _ => gs.length - (intOf i).toNat)
  case atStart => exact ⟨0, rfl, rfl, by omega, HP.out, Below.refl _ _⟩
  case round =>
    obtain ⟨k, rfl, rfl, hk, htk, hb⟩ := hrel
    have HT : Hid (tk r (gs.drop k) k = P) := htk
    have hwz : w.heap.size + 1 ≤ wr.heap.size := by have := hb.size; simpa using this
    have hb' : Below (w.alloc (.cells #[.string (bs r.tag), .int .i64 r.least, .int .i64 r.most, .string (bs r.form)] 189)).heap.size (w.alloc (.cells #[.string (bs r.tag), .int .i64 r.least, .int .i64 r.most, .string (bs r.form)] 189)) wr := hb.mono (Nat.le_of_eq (World.size_alloc ..))
    have HB : Hid (Below w.heap.size w wr ∧ Below (w.heap.size + 1) (w.alloc (.cells #[.string (bs r.tag), .int .i64 r.least, .int .i64 r.most, .string (bs r.form)] 189)) wr) := ⟨b0.trans (hb.mono (by omega)), hb⟩
    have r0 : wr.cell? ⟨w.heap.size, 0, none⟩ = some (.string (bs r.tag)) := (hb.cell (p := ⟨w.heap.size, 0, none⟩) (by simp)).trans (by simp [go_sem])
    have r2 : wr.cell? ⟨w.heap.size, 2, none⟩ = some (.int .i64 r.most) := (hb.cell (p := ⟨w.heap.size, 2, none⟩) (by simp)).trans (by simp [go_sem])
    have r3 : wr.cell? ⟨w.heap.size, 3, none⟩ = some (.string (bs r.form)) := (hb.cell (p := ⟨w.heap.size, 3, none⟩) (by simp)).trans (by simp [go_sem])
    have Hr : Hid (RowG wr (.slice a gs.length cap) gs ∧ ErrsAt wr) := ⟨H.out.1.below hb', H.out.2.1.below hb'⟩
    clear htk hb hb'
    by_cases hlt : k < gs.length
    · have hlt' : (k : Int) < (gs.length : Int) := by omega
      obtain ⟨b, o, c1, g, u, hv, hg, hc, hc2, hu, hgz⟩ := Hr.out.1.at hlt
      simp only [Value.slice.injEq, true_and] at hv
      obtain ⟨rfl, rfl⟩ := hv
      have hEg := (H.out.2.2.2 k g hg).2
      have hdrop : gs.drop k = g :: gs.drop (k + 1) := by
        rw [List.drop_eq_getElem_cons hlt]
        rw [List.getElem?_eq_getElem hlt, Option.some.injEq] at hg
        rw [hg]
      have Hd : Hid (tk r (g :: gs.drop (k + 1)) k = P) := by rw [← hdrop]; exact HT.out
      obtain ⟨ua, uc, rfl⟩ := hu.val
      have bA : Below wr.heap.size wr (wr.alloc (.cells #[.string g.1, .slice ua g.2.length uc] 90)) := (Below.refl _ _).alloc (Nat.le_refl _) _
      have hu2 := hu.below bA
      have hE2 := Hr.out.2.below bA
      have s0 : (wr.alloc (.cells #[.string g.1, .slice ua g.2.length uc] 90)).cell? ⟨w.heap.size, 0, none⟩ = some (.string (bs r.tag)) := (bA.cell (cell_lt r0)).trans r0
      have s2 : (wr.alloc (.cells #[.string g.1, .slice ua g.2.length uc] 90)).cell? ⟨w.heap.size, 2, none⟩ = some (.int .i64 r.most) := (bA.cell (cell_lt r2)).trans r2
      have s3 : (wr.alloc (.cells #[.string g.1, .slice ua g.2.length uc] 90)).cell? ⟨w.heap.size, 3, none⟩ = some (.string (bs r.form)) := (bA.cell (cell_lt r3)).trans r3
      have n0 : (wr.alloc (.cells #[.string g.1, .slice ua g.2.length uc] 90)).cell? ⟨wr.heap.size, 0, none⟩ = some (.string g.1) := by simp [go_sem]
      have n1 : (wr.alloc (.cells #[.string g.1, .slice ua g.2.length uc] 90)).cell? ⟨wr.heap.size, 1, none⟩ = some (.slice ua g.2.length uc) := by simp [go_sem]
      have HW : Hid (Below w.heap.size w (wr.alloc (.cells #[.string g.1, .slice ua g.2.length uc] 90))) := HB.out.1.trans (bA.mono HB.out.1.size)
      clear hg hdrop r0 r2 r3
      by_cases hm : (k : Int) = r.most
      · have hm' : ((k : Int) == r.most) = true := by simpa using hm
        have HPk : Hid (P = (k, -1)) := by show _ = _; rw [← Hd.out, tk, if_pos (.inl hm)]
        clear hm
        go_wp2
        go_ret2
        exact ⟨by rw [HPk.out]; rfl, HW.out⟩
      · have hm' : ((k : Int) == r.most) = false := by simpa using hm
        by_cases ht : g.1 = bs r.tag
        · have ht' : (g.1.toList == (bs r.tag).toList) = true := by rw [ht]; simp
          have Ht : Hid (g.1 = bs r.tag) := ht
          have Hm : Hid (¬ (k : Int) = r.most) := hm
          clear ht hm
          go_wp2_with fail
          refine (formRight_impl (bs r.form) g.1 _ g.2 _ hfz hu2 hEg hE2).mono ?_
          rintro e w3 ⟨fr, rfl, hfr, hb3⟩
          have Hf : Hid (fr = frV (bs r.form) g.2) := frV_is hfr
          have HW3 : Hid (Below w.heap.size w w3 ∧ Below (w.heap.size + 1) (w.alloc (.cells #[.string (bs r.tag), .int .i64 r.least, .int .i64 r.most, .string (bs r.form)] 189)) w3) :=
            ⟨HW.out.trans (hb3.mono HW.out.size), (HB.out.2.trans (bA.mono hwz)).trans (hb3.mono (Nat.le_trans hwz (by simp)))⟩
          clear hfr hb3 bA hu2 hE2
          by_cases hp : 0 ≤ fr
          · have HPk : Hid (P = (k, fr)) := by show _ = _; rw [← Hd.out, tk, if_neg (by rintro (x | x); exact Hm.out x; exact x Ht.out), if_pos (by rw [← Hf.out]; exact hp), ← Hf.out]
            go_wp2
            go_ret2
            exact ⟨by rw [HPk.out]; rfl, HW3.out.1⟩
          · have hp' : fr < 0 := by omega
            have HPk : Hid (tk r (gs.drop (k + 1)) (k + 1) = P) := by show _ = _; rw [← Hd.out]; conv => rhs; rw [tk, if_neg (by rintro (x | x); exact Hm.out x; exact x Ht.out), if_neg (by rw [← Hf.out]; exact hp)]
            go_wp2
            go_roundw
            case rel => exact ⟨k + 1, by go_num, by go_num, by omega, HPk.out, HW3.out.2⟩
            case measure => simp [intOf]; omega
        · have ht' : (g.1.toList == (bs r.tag).toList) = false := by
            rw [beq_eq_false_iff_ne]
            intro e
            apply ht
            rw [Lib.toList_data, Lib.toList_data] at e
            exact ByteArray.ext (Array.toList_inj.1 e)
          have HPk : Hid (P = (k, -1)) := by show _ = _; rw [← Hd.out, tk, if_pos (.inr ht)]
          clear ht
          go_wp2
          go_ret2
          exact ⟨by rw [HPk.out]; rfl, HW.out⟩
    · obtain rfl : k = gs.length := by omega
      have HPk : Hid (P = (gs.length, -1)) := by show _ = _; rw [← HT.out, List.drop_length, tk]
      clear hlt
      go_wp2
      go_ret2
      exact ⟨by rw [HPk.out]; rfl, HB.out.1⟩
end Go.Proofs.YtkaolpnbddjdpaaGreatDoor
