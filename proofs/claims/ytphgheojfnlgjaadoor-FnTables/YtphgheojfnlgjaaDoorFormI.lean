/- Contracts of impl.formOf and impl.FormRight, at every form and every segment whose texts have at most 2^20 bytes. -/
import Derived.Test.YtphgheojfnlgjaaDoorFormP
import Derived.Test.YtphgheojfnlgjaaDoorShForm
import Derived.Deep.QuietTactic
import Derived.BigQuiet
import Derived.Deep.RegionHeld3
namespace Go.Proofs.YtphgheojfnlgjaaDoor
open Go.ChangeShapes Go.WideShapes Go.ChangeAt Go.RowKit
theorem trim_any (s : ByteArray) (w : World) (hs : s.size ≤ 9223372036854775807) :
    Calls Tryd.prog 28 #[.string s, .string ⟨#[114, 110, 113, 122, 100, 116]⟩] w fun e w' => ∃ t, e = .returned (.string t) ∧ Hid (t.toList.isEmpty = s.data.toList.all ltB) ∧ Below w.heap.size w w' := by
  refine (Any.strings_Trim_laid lays160 (by kernel_rfl) s ⟨#[114, 110, 113, 122, 100, 116]⟩ w hs (by decide) (ascii_of_all (by decide))).mono ?_
  rintro e w' ⟨rfl, hb⟩
  refine ⟨_, rfl, ?_, hb⟩
  show (ByteArray.mk _).toList.isEmpty = _
  rw [Lib.toList_data, Bool.eq_iff_iff, List.isEmpty_iff]
  exact trimS_empty s.data.toList
theorem index_ge (l : List UInt8) : -1 ≤ Lib.indexByte l 63 := by
  induction l with
  | nil => unfold Lib.indexByte; omega
  | cons b l ih =>
    unfold Lib.indexByte
    split
    · omega
    · split
      · omega
      · omega
theorem index_none (l : List UInt8) : Lib.indexByte l 63 < 0 → ∀ c ∈ l, c ≠ 63 := by
  induction l with
  | nil => intro _ c hc; cases hc
  | cons b l ih =>
    intro h
    unfold Lib.indexByte at h
    have hg := index_ge l
    split at h
    · omega
    · rename_i hb
      split at h
      · rename_i h1
        have h1' : Lib.indexByte l 63 = -1 := beq_iff_eq.1 h1
        intro c hc
        rcases List.mem_cons.1 hc with rfl | hc
        · intro e; subst e; exact hb rfl
        · exact ih (by omega) c hc
      · omega
theorem index_at (l : List UInt8) : ∀ (k : Nat), Lib.indexByte l 63 = (k : Int) → k < l.length ∧ l = l.take k ++ 63 :: l.drop (k + 1) ∧ ∀ c ∈ l.take k, c ≠ 63 := by
  induction l with
  | nil => intro k h; unfold Lib.indexByte at h; omega
  | cons b l ih =>
    intro k h
    unfold Lib.indexByte at h
    have hg := index_ge l
    split at h
    · rename_i hb
      obtain rfl : k = 0 := by omega
      have : b = 63 := beq_iff_eq.1 hb
      subst this
      exact ⟨by simp, by simp, by simp⟩
    · rename_i hb
      split at h
      · omega
      · rename_i h1
        have h1' : Lib.indexByte l 63 ≠ -1 := fun e => h1 (by rw [e]; rfl)
        obtain ⟨j, rfl⟩ : ∃ j, k = j + 1 := ⟨k - 1, by omega⟩
        obtain ⟨h1, h2, h3⟩ := ih j (by omega)
        refine ⟨by simp; omega, ?_, ?_⟩
        · simp only [List.take_succ_cons, List.drop_succ_cons, List.cons_append]
          rw [← h2]
        · intro c hc
          simp only [List.take_succ_cons] at hc
          rcases List.mem_cons.1 hc with rfl | hc
          · intro e; subst e; exact hb rfl
          · exact h3 c hc
/-- The two sides of a form's mark. -/
structure Cut2 (f n s : ByteArray) : Prop where
  form : formF f.data.toList = if (n ++ s).data.toList.all ltB then some ((n ++ s).data.toList, n.size) else none
  size : n.size + s.size ≤ f.size
set_option maxHeartbeats 1000000 in
theorem cutLite_any (f : ByteArray) (w : World) (hf : f.size ≤ 20000) :
    Calls Tryd.prog 39 #[.string f, .string ⟨#[63]⟩] w fun e w' => ∃ n s b, e = .returned (.tuple #[.string n, .string s, .bool b]) ∧ Cut2 f n s ∧ Below w.heap.size w w' := by
  go_enter Tryd.func39, Tryd.ntmps39
  go_wp2_with fail
  refine (Any.stringslite_Index_one lays219 f 63 w).mono ?_
  rintro e w1 ⟨rfl, rfl⟩
  rcases Int.lt_or_le (Lib.indexByte f.data.toList 63) 0 with h | h
  · have HC : Hid (Cut2 f f ⟨#[]⟩) := by
      refine ⟨?_, Nat.le_refl _⟩
      have e : (f ++ (⟨#[]⟩ : ByteArray)).data.toList = f.data.toList := by simp [ByteArray.data_append]
      rw [e]
      exact formF_whole _ (index_none _ h)
    generalize Lib.indexByte f.data.toList 63 = i at *
    go_wp2
    go_ret3
    exact ⟨_, _, _, rfl, HC.out, Below.refl _ _⟩
  · obtain ⟨k, hk⟩ : ∃ k : Nat, Lib.indexByte f.data.toList 63 = k := ⟨_, (Int.toNat_of_nonneg h).symm⟩
    obtain ⟨hkl, hl, hnn⟩ := index_at _ k hk
    have hkl' : k < f.size := hkl
    have HC : Hid (Cut2 f (f.extract 0 k) (f.extract (k + 1) f.size)) := by
      have e1 : (f.extract 0 k).data.toList = f.data.toList.take k := by rw [Lib.extract_data]; simp
      have e2 : (f.extract (k + 1) f.size).data.toList = f.data.toList.drop (k + 1) := by
        rw [Lib.extract_data]
        exact List.take_of_length_le (by simp)
      have e3 : (f.extract 0 k ++ f.extract (k + 1) f.size).data.toList = f.data.toList.take k ++ f.data.toList.drop (k + 1) := by rw [ByteArray.data_append, Array.toList_append, e1, e2]
      refine ⟨?_, ?_⟩
      · rw [e3]
        conv => lhs; rw [hl]
        rw [formF_cut _ _ hnn]
        have e4 : (f.data.toList.take k).length = (f.extract 0 k).size := by rw [← e1]; rfl
        rw [e4]
      · simp
        omega
    rw [hk]
    clear hl hnn hkl h hk
    have hk1 : (k : Int) < (f.size : Int) := by omega
    have hk2 : (k : Int) ≤ (f.size : Int) := by omega
    have hk3 : (k : Int) + 1 ≤ (f.size : Int) := by omega
    go_wp2_with fail
    go_quiet (fail)
    go_wp2
    go_ret3
    exact ⟨_, _, _, rfl, HC.out, below_drewN (Below.refl _ _) _⟩
set_option maxHeartbeats 1000000 in
theorem cut_any (f : ByteArray) (w : World) (hf : f.size ≤ 20000) :
    Calls Tryd.prog 27 #[.string f, .string ⟨#[63]⟩] w fun e w' => ∃ n s b, e = .returned (.tuple #[.string n, .string s, .bool b]) ∧ Cut2 f n s ∧ Below w.heap.size w w' := by
  go_enter Tryd.func27, Tryd.ntmps27
  go_wp2_with fail
  refine (cutLite_any f w hf).mono ?_
  rintro e w1 ⟨n, s, b, rfl, hC, hb⟩
  go_wp2
  go_ret3
  exact ⟨_, _, _, rfl, hC, hb⟩
/-- What formOf tells. -/
def FmO (f : ByteArray) (ls : ByteArray) (m : Nat) (b : Bool) : Prop := if b then formF f.data.toList = some (ls.data.toList, m) ∧ ls.size ≤ 20000 ∧ m ≤ 20000 else formF f.data.toList = none
set_option maxHeartbeats 1000000 in
theorem formOf_any (f : ByteArray) (w : World) (hf : f.size ≤ 20000) :
    Calls Tryd.prog 20 #[.string f] w fun e w' => ∃ (ls : ByteArray) (m : Nat) (b : Bool), e = .returned (.tuple #[.string ls, .int .i64 (m : Int), .bool b]) ∧ FmO f ls m b ∧ Below w.heap.size w w' := by
  go_enter Tryd.func20, Tryd.ntmps20
  go_wp2_with fail
  refine (cut_any f w hf).mono ?_
  rintro e w1 ⟨n, s, b, rfl, hC, hb⟩
  have hsz := hC.size
  have hns : n.size + s.size ≤ 9223372036854775807 := by omega
  have HC : Hid (Cut2 f n s) := hC
  have hzz : (n ++ s).size ≤ 20000 := by rw [ByteArray.size_append]; omega
  clear hC
  go_wp2_with fail
  refine (trim_any (n ++ s) w1 (by omega)).mono ?_
  rintro e w2 ⟨t, rfl, ht, hb2⟩
  have HB : Hid (Below w.heap.size w w2) := hb.trans (hb2.mono hb.size)
  clear hb hb2
  cases he : t.toList.isEmpty with
  | true =>
    have HF : Hid (FmO f (n ++ s) n.size true) := by
      refine ⟨?_, hzz, by omega⟩
      have h1 := HC.out.form
      rw [← ht.out, he] at h1
      exact h1
    go_wp2
    go_ret3
    exact ⟨_, n.size, _, rfl, HF.out, HB.out⟩
  | false =>
    have HF : Hid (FmO f ⟨#[]⟩ 0 false) := by
      have h1 := HC.out.form
      rw [← ht.out, he] at h1
      exact h1
    go_wp2
    go_ret3
    exact ⟨_, 0, _, rfl, HF.out, HB.out⟩
theorem not_bad {ls : List UInt8} {es : List (List ByteArray)} {k : Nat} {c : UInt8} {e : List ByteArray} (hc : ls[k]? = some c) (he : es[k]? = some e) (h : elemB (c.toNat : Int) e = true) : ¬ badAt ls es k := by
  have hk := (List.getElem?_eq_some_iff.1 hc).1
  unfold badAt
  rw [hc, he]
  simp only [Option.getD_some]
  rintro (g | g)
  · omega
  · rw [h] at g; cases g
theorem is_bad {ls : List UInt8} {es : List (List ByteArray)} {k : Nat} {c : UInt8} {e : List ByteArray} (hc : ls[k]? = some c) (he : es[k]? = some e) (h : elemB (c.toNat : Int) e = false) : badAt ls es k := by
  unfold badAt
  rw [hc, he]
  exact .inr h
theorem letter_at {f ls : ByteArray} {m : Nat} (h : formF f.data.toList = some (ls.data.toList, m)) {k : Nat} (hk : k < ls.size) : letterB ((ls[k]'hk).toNat : Int) = true := by
  have ha := formF_all h
  exact List.all_eq_true.1 ha (ls.data.toList[k]) (List.getElem_mem (show k < ls.data.toList.length from hk))
set_option maxHeartbeats 4000000 in
theorem formRight_impl (f tag : ByteArray) (v : Value) (es : List (List ByteArray)) (w : World) (hfs : f.size ≤ 1048576) (h : RowE w v es) (hB : BdE 1048576 es) (hE : ErrsAt w) :
    Calls Tryd.prog 9 #[.string f, .agg #[.string tag, v]] w fun e w' => ∃ r : Int, e = .returned (.int .i64 r) ∧ FrO f es r ∧ Below w.heap.size w w' := by
  obtain ⟨a, cap, rfl⟩ := h.val
  by_cases hf : 20000 < f.size
  · have hf' : (20000 : Int) < (f.size : Int) := by omega
    clear h
    go_enter Tryd.func9, Tryd.ntmps9
    go_wp2
    go_ret
    exact ⟨0, rfl, FrO.big hf, (Below.refl _ _).alloc (Nat.le_refl _) _⟩
  · have hf' : (f.size : Int) ≤ 20000 := by omega
    have b0 : Below w.heap.size w (w.alloc (.cells #[.string tag, .slice a es.length cap] 36)) := (Below.refl _ _).alloc (Nat.le_refl _) _
    go_enter Tryd.func9, Tryd.ntmps9
    go_wp2_with fail
    refine (formOf_any f _ (by omega)).mono ?_
    rintro e w1 ⟨ls, m, b, rfl, hF, hb⟩
    cases b with
    | false =>
      have HB : Hid (Below w.heap.size w w1) := b0.trans (hb.mono (by simp))
      clear hb h
      go_wp2
      go_ret
      exact ⟨0, rfl, FrO.none_ (by omega) hF, HB.out⟩
    | true =>
      have HB : Hid (Below w.heap.size w w1 ∧ RowE w1 (.slice a es.length cap) es ∧ ErrsAt w1 ∧ formF f.data.toList = some (ls.data.toList, m)) := by
        have b1 := b0.trans (hb.mono (by simp))
        exact ⟨b1, h.below b1, hE.below b1, hF.1⟩
      have hls := hF.2.1
      have hm := hF.2.2
      have d1 : w1.cell? ⟨w.heap.size, 1, none⟩ = some (.slice a es.length cap) := (hb.cell (p := ⟨w.heap.size, 1, none⟩) (by simp)).trans (by simp [go_sem])
      have hes := hB.1
      clear hb h hE b0 hF
      go_wp2_with fail
      go_loopw [24] (fun i wr => ∃ k : Nat, i = .int .i64 (k : Int) ∧ k ≤ es.length ∧ (∀ j, j < k → ¬ badAt ls.data.toList es j) ∧ Below w1.heap.size w1 wr) (fun i _ => es.length - (intOf i).toNat)
      case atStart => exact ⟨0, rfl, by omega, fun j h => by omega, Below.refl _ _⟩
      case round =>
        obtain ⟨k, rfl, hk, hA, hb⟩ := hrel
        have HA : Hid ((∀ j, j < k → ¬ badAt ls.data.toList es j) ∧ Below w1.heap.size w1 wr) := ⟨hA, hb⟩
        have hwz := hb.size
        have d2 : wr.cell? ⟨w.heap.size, 1, none⟩ = some (.slice a es.length cap) := (hb.cell (cell_lt d1)).trans d1
        clear hA
        by_cases hlt : k < es.length
        · have hlt' : (k : Int) < (es.length : Int) := by omega
          obtain ⟨b, o, c1, e, u, hv, he, hc, hu⟩ := (HB.out.2.1.below hb).at hlt
          simp only [Value.slice.injEq, true_and] at hv
          obtain ⟨rfl, rfl⟩ := hv
          have hue : ErrsAt wr := HB.out.2.2.1.below hb
          have hBe : BdS 1048576 e := hB.2 k e he
          have He : Hid (es[k]? = some e) := he
          clear he hb
          obtain ⟨ua, uc, rfl⟩ := hu.val
          by_cases hkl : k < ls.size
          · have hkl' : ((k : Int) == (ls.size : Int)) = false := by rw [beq_eq_false_iff_ne]; omega
            have hkl2 : (k : Int) < (ls.size : Int) := by omega
            have hlt2 := letter_at HB.out.2.2.2 hkl
            have bA : Below wr.heap.size wr (wr.alloc (.cells #[.slice ua e.length uc] 55)) := (Below.refl _ _).alloc (Nat.le_refl _) _
            have hu2 := hu.below bA
            have hue2 := hue.below bA
            have hnew : (wr.alloc (.cells #[.slice ua e.length uc] 55)).cell? ⟨wr.heap.size, 0, none⟩ = some (.slice ua e.length uc) := by simp [go_sem]
            have hx0 : 0 ≤ ((ls[k]'hkl).toNat : Int) := by omega
            have hx1 : ((ls[k]'hkl).toNat : Int) ≤ 255 := by have := (ls[k]'hkl).toNat_lt; omega
            have HK : Hid (ls.data.toList[k]? = some (ls[k]'hkl)) := List.getElem?_eq_getElem (show k < ls.data.toList.length from hkl)
            go_wp2_with fail
            generalize wr.alloc (.cells #[.slice ua e.length uc] 55) = WA at *
            have hgl := cell_lt hnew
            clear hc d1 d2 hu hue
            cases hbv : elemB ((ls[k]'hkl).toNat : Int) e with
            | true =>
              go_region_held3 (fun w' => w'.cell? ⟨wr.heap.size, 0, none⟩ = some (.slice ua e.length uc)) (go_keep) (first | (go_at_call 21; refine (isOf_any _ _ e _ hlt2 (hu2.below (Below.refl _ _).drew) hBe (hue2.below (Below.refl _ _).drew)).mono ?_; rintro e1 w3 ⟨rfl, hb3⟩; rw [hbv]; have ku3 := (hb3.cell (p := ⟨wr.heap.size, 0, none⟩) hgl).trans (show WA.drew.cell? ⟨wr.heap.size, 0, none⟩ = _ from hnew)))
              have HW : Hid (Below w1.heap.size w1 w3) := HA.out.2.trans ((bA.trans ((Below.refl _ WA).drew.mono (bA.size))).trans (hb3.mono bA.size) |>.mono hwz)
              clear hb3 bA hu2 hue2
              go_wp2
              go_roundw
              case rel =>
                refine ⟨k + 1, by go_num, by omega, fun j hj => ?_, HW.out⟩
                rcases Nat.lt_or_ge j k with g | g
                · exact HA.out.1 j g
                · obtain rfl : j = k := by omega
                  exact not_bad HK.out He.out hbv
              case measure => simp [intOf]; omega
            | false =>
              go_region_held3 (fun w' => w'.cell? ⟨wr.heap.size, 0, none⟩ = some (.slice ua e.length uc)) (go_keep) (first | (go_at_call 21; refine (isOf_any _ _ e _ hlt2 (hu2.below (Below.refl _ _).drew) hBe (hue2.below (Below.refl _ _).drew)).mono ?_; rintro e1 w3 ⟨rfl, hb3⟩; rw [hbv]; have ku3 := (hb3.cell (p := ⟨wr.heap.size, 0, none⟩) hgl).trans (show WA.drew.cell? ⟨wr.heap.size, 0, none⟩ = _ from hnew)))
              have HW : Hid (Below w1.heap.size w1 w3) := HA.out.2.trans ((bA.trans ((Below.refl _ WA).drew.mono (bA.size))).trans (hb3.mono bA.size) |>.mono hwz)
              clear hb3 bA hu2 hue2
              go_wp2
              go_ret
              exact ⟨(k : Int), rfl, FrO.some_ (by omega) HB.out.2.2.2 (.inl ⟨k, hlt, rfl, is_bad HK.out He.out hbv, HA.out.1⟩), HB.out.1.trans (HW.out.mono HB.out.1.size)⟩
          · have hkl' : ((k : Int) == (ls.size : Int)) = true := by
              rw [beq_iff_eq]
              have hge : ¬ ls.size < k := fun g => HA.out.1 ls.size g (.inl (Nat.le_refl _))
              omega
            have HBd : Hid (badAt ls.data.toList es k) := .inl (by have e : ls.data.toList.length = ls.size := rfl; omega)
            have HW : Hid (Below w.heap.size w (wr.alloc (.cells #[.slice ua e.length uc] 55))) := HB.out.1.trans ((HA.out.2.alloc hwz _).mono HB.out.1.size)
            go_wp2_with fail
            generalize wr.alloc (.cells #[.slice ua e.length uc] 55) = WA at *
            clear hc d1 d2 hu hue hkl
            go_quiet (fail)
            go_wp2
            go_ret
            exact ⟨(k : Int), rfl, FrO.some_ (by omega) HB.out.2.2.2 (.inl ⟨k, hlt, rfl, HBd.out, HA.out.1⟩), by first | exact below_drewN HW.out _ | exact HW.out⟩
        · obtain rfl : k = es.length := by omega
          have HW : Hid (Below w.heap.size w wr) := HB.out.1.trans (HA.out.2.mono HB.out.1.size)
          clear hb
          by_cases hml : es.length < m
          · have hml' : (es.length : Int) < (m : Int) := by omega
            go_wp2
            go_ret
            exact ⟨_, rfl, FrO.some_ (by omega) HB.out.2.2.2 (.inr ⟨HA.out.1, .inl ⟨hml, rfl⟩⟩), HW.out⟩
          · have hml' : (m : Int) ≤ (es.length : Int) := by omega
            go_wp2
            go_ret
            exact ⟨_, rfl, FrO.some_ (by omega) HB.out.2.2.2 (.inr ⟨HA.out.1, .inr ⟨by omega, rfl⟩⟩), HW.out⟩
end Go.Proofs.YtphgheojfnlgjaaDoor
