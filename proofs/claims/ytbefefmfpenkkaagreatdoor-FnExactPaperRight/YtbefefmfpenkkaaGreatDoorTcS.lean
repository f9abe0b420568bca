/- Contract of the model's TableCheck, at every kind and every list of segments whose texts have at most 2^20 bytes. -/
import Derived.Test.YtbefefmfpenkkaaGreatDoorFormI
import Derived.Deep.QuietTactic
import Derived.BigQuiet
import Derived.Deep.RegionHeld3
import Derived.Deep.SlicePairs
import Derived.Shelf.Slices.Clone
import Derived.Test.YtbefefmfpenkkaaGreatDoorTcI
namespace Go.Proofs.YtbefefmfpenkkaaGreatDoor
open Go.ChangeShapes Go.WideShapes Go.ChangeAt Go.RowKit Go.Shelf
theorem infoByte : (Tryz.prog.info? 5).map (fun i => (i.zero, i.size, i.bytes)) = some (some (.int .u8 0), 1, 1) := by kernel_rfl
theorem cell1_at (w : World) (x : Value) (t : TypeId) (g : Nat) (hg : g = w.heap.size) : ∀ j u, [x][j]? = some u → (w.alloc (.cells #[x] t)).cell? ((⟨g, 0, none⟩ : Addr).add j) = some u := by
  subst hg
  intro j u hj
  rcases j with _ | j
  · simp only [List.getElem?_cons_zero, Option.some.injEq] at hj
    subst hj
    simp [go_sem]
  · simp at hj
def u8V (c : UInt8) : Value := .int .u8 (c.toNat : Int)
/-- The letters so far lie in a row of the call's own. -/
def FsRow (n0 : Nat) (W : World) (v : Value) (ls : List UInt8) : Prop := W.ownsRow n0 5 1 v ls.length (ls.map u8V)
theorem fs_val {n0 : Nat} {W : World} {v : Value} {ls : List UInt8} (h : FsRow n0 W v ls) : ∃ A C, v = .slice A ls.length C := by
  rcases h.2 with ⟨rfl, e⟩ | ⟨g, cap, cur, rfl, _⟩
  · exact ⟨none, 0, by rw [e]⟩
  · exact ⟨_, cap, rfl⟩
theorem fs_cell {n0 : Nat} {W : World} {A : Option Addr} {C : Nat} {ls : List UInt8} (h : FsRow n0 W (.slice A ls.length C) ls) {k : Nat} {c : UInt8} (hk : ls[k]? = some c) : ∃ g, A = some ⟨g, 0, none⟩ ∧ W.cell? ⟨g, k, none⟩ = some (u8V c) := by
  have hkl := (List.getElem?_eq_some_iff.1 hk).1
  rcases h.2 with ⟨e, e2⟩ | ⟨g, cap, cur, e, _, hgb, _, _, _, htk⟩
  · omega
  · simp only [Value.slice.injEq] at e
    refine ⟨g, e.1, ?_⟩
    have h1 : (cur.toList.take (ls.length * 1))[k]? = (ls.map u8V)[k]? := by rw [htk]
    rw [List.getElem?_take_of_lt (by omega), List.getElem?_map, hk] at h1
    simp [World.cell?, hgb] at h1 ⊢
    exact h1
theorem fs_alloc {n0 : Nat} {W : World} {v : Value} {ls : List UInt8} (h : FsRow n0 W v ls) (o : Obj) : (W.alloc o).ownsRow n0 5 1 v ls.length (ls.map u8V) := World.ownsRow.alloc h o
theorem fs_app {n0 : Nat} {w0 W W' : World} {A : Option Addr} {C : Nat} {v' : Value} {ls : List UInt8} {c : UInt8} {x : Int} {o : Obj} (hx : x = (c.toNat : Int)) (hR : FsRow n0 W (.slice A ls.length C) ls ∧ Below n0 w0 W) (hn : n0 ≤ W.heap.size) (h : W'.ownsRow n0 5 1 v' (ls.length + 1) (ls.map u8V ++ [.int .u8 x])) (hg : (W.alloc o).grownBy W' (Value.slice A ls.length C).ownBlock) : FsRow n0 W' v' (ls ++ [c]) ∧ Below n0 w0 W' := by
  refine ⟨?_, ?_⟩
  · unfold FsRow
    rw [List.length_append, List.map_append]
    subst hx
    exact h
  · refine (hR.2.alloc hn o).grown hg (by rw [World.size_alloc]; omega) fun k hk => ?_
    rcases hR.1.2 with ⟨e, _⟩ | ⟨g, cap, cur, e, hb, _⟩
    · rw [e] at hk; cases hk
    · rw [e] at hk
      simp only [Value.ownBlock, Option.some.injEq] at hk
      omega
theorem fm_let {f : ByteArray} {k : Nat} {ls : List UInt8} {m : Int} (h : fm (f.data.toList.drop k) ls m = fm f.data.toList [] (-1)) (hk : k < f.size) (h63 : (f[k]'hk).toNat ≠ 63) (hl : ltB (f[k]'hk) = true) : fm (f.data.toList.drop (k + 1)) (ls ++ [f[k]'hk]) m = fm f.data.toList [] (-1) := by
  rw [← h, List.drop_eq_getElem_cons (show k < f.data.toList.length from hk)]
  have e : f.data.toList[k] = f[k]'hk := rfl
  rw [e, fm, if_neg (fun e => h63 (by rw [e]; rfl)), if_pos hl]
theorem fm_no {f : ByteArray} {k : Nat} {ls : List UInt8} {m : Int} (h : fm (f.data.toList.drop k) ls m = fm f.data.toList [] (-1)) (hk : k < f.size) (h63 : (f[k]'hk).toNat ≠ 63) (hl : ltB (f[k]'hk) = false) : formF f.data.toList = none := by
  unfold formF
  rw [← h, List.drop_eq_getElem_cons (show k < f.data.toList.length from hk)]
  have e : f.data.toList[k] = f[k]'hk := rfl
  rw [e, fm, if_neg (fun e => h63 (by rw [e]; rfl)), hl]
  rfl
theorem eq63 {c : UInt8} (h : (c.toNat : Int) = 63) : c = 63 := by
  have : UInt8.ofNat c.toNat = UInt8.ofNat 63 := by rw [show c.toNat = 63 by omega]
  simpa using this
theorem fm_two {f : ByteArray} {k : Nat} {ls : List UInt8} {m : Int} (h : fm (f.data.toList.drop k) ls m = fm f.data.toList [] (-1)) (hk : k < f.size) (h63 : ((f[k]'hk).toNat : Int) = 63) (hm : 0 ≤ m) : formF f.data.toList = none := by
  unfold formF
  rw [← h, List.drop_eq_getElem_cons (show k < f.data.toList.length from hk)]
  have e : f.data.toList[k] = 63 := eq63 h63
  rw [e, fm, if_pos rfl, if_pos hm]
theorem fm_mark {f : ByteArray} {k : Nat} {ls : List UInt8} {m : Int} (h : fm (f.data.toList.drop k) ls m = fm f.data.toList [] (-1)) (hk : k < f.size) (h63 : ((f[k]'hk).toNat : Int) = 63) (hm : m < 0) : fm (f.data.toList.drop (k + 1)) ls ls.length = fm f.data.toList [] (-1) := by
  rw [← h, List.drop_eq_getElem_cons (show k < f.data.toList.length from hk)]
  have e : f.data.toList[k] = 63 := eq63 h63
  rw [e, fm, if_pos rfl, if_neg (by omega)]
theorem fm_end {f : ByteArray} {ls : List UInt8} {m : Int} (h : fm (f.data.toList.drop f.size) ls m = fm f.data.toList [] (-1)) : formF f.data.toList = some (ls, if m < 0 then ls.length else m.toNat) := by
  unfold formF
  rw [← h, List.drop_of_length_le (show f.data.toList.length ≤ f.size from Nat.le_refl _), fm]
set_option maxRecDepth 20000 in
set_option maxHeartbeats 8000000 in
theorem formRight_spec (f tag : ByteArray) (v : Value) (es : List (List ByteArray)) (w : World) (hfs : f.size ≤ 1048576) (h : RowE w v es) (hB : BdE 1048576 es) :
    Calls Tryz.prog 70 #[.string f, .agg #[.string tag, v]] w fun e w' => ∃ r : Int, e = .returned (.int .i64 r) ∧ FrO f es r ∧ Below w.heap.size w w' := by
  obtain ⟨a, cap, rfl⟩ := h.val
  obtain ⟨i0, hi, hz0, hz1, hz2⟩ := info_parts infoByte
  by_cases hf : 20000 < f.size
  · have hf' : (20000 : Int) < (f.size : Int) := by omega
    clear h
    go_enter Tryz.func70, Tryz.ntmps70
    go_wp2
    go_ret
    exact ⟨0, rfl, FrO.big hf, (Below.refl _ _).alloc (Nat.le_refl _) _⟩
  · have hf' : (f.size : Int) ≤ 20000 := by omega
    have b0 : Below w.heap.size w (w.alloc (.cells #[.string tag, .slice a es.length cap] 45)) := (Below.refl _ _).alloc (Nat.le_refl _) _
    have hes := hB.1
    have H0 : Hid (RowE (w.alloc (.cells #[.string tag, .slice a es.length cap] 45)) (.slice a es.length cap) es ∧ BdE 1048576 es) := ⟨h.below b0, hB⟩
    clear h hB
    go_enter Tryz.func70, Tryz.ntmps70
    go_wp2_with fail
    go_loopw [5, 6, 7] (fun lv mv i wr => ∃ (k : Nat) (ls : List UInt8) (m : Int) (A : Option Addr) (C : Nat), i = .int .i64 (k : Int) ∧ k ≤ f.size ∧ lv = .slice A ls.length C ∧ mv = .int .i64 m ∧ FsRow (w.heap.size + 1) wr (.slice A ls.length C) ls ∧ Below (w.heap.size + 1) (w.alloc (.cells #[.string tag, .slice a es.length cap] 45)) wr ∧ ls.length ≤ k ∧ -1 ≤ m ∧ m ≤ 20000 ∧ fm (f.data.toList.drop k) ls m = fm f.data.toList [] (-1)) (fun _ _ i _ => f.size - (intOf i).toNat)
    case atStart =>
      refine ⟨0, [], -1, _, _, rfl, by omega, rfl, rfl, ?_, (Below.refl _ _).alloc (Nat.le_of_eq (World.size_alloc ..).symm) _, by simp, by omega, by omega, by simp⟩
      have e0 := World.ownsRow_made (base := w.heap.size + 1) (e := 5) (size := 1) (w.alloc (.cells #[.string tag, .slice a es.length cap] 45)) #[] 0 (Nat.le_of_eq (World.size_alloc w _).symm) (Nat.zero_le _) rfl
      rw [World.size_alloc] at e0
      exact e0
    case round =>
      obtain ⟨k, ls, m, A, C, rfl, hk, rfl, rfl, hrow, hbel, hlk, hm0, hm1, hfm⟩ := hrel
      have HR : Hid (FsRow (w.heap.size + 1) wr (.slice A ls.length C) ls ∧ Below (w.heap.size + 1) (w.alloc (.cells #[.string tag, .slice a es.length cap] 45)) wr) := ⟨hrow, hbel⟩
      have HF : Hid (fm (f.data.toList.drop k) ls m = fm f.data.toList [] (-1)) := hfm
      have hwz : w.heap.size + 1 ≤ wr.heap.size := by have := hbel.size; simpa using this
      have HB : Hid (Below w.heap.size w wr) := b0.trans (hbel.mono (by omega))
      clear hrow hbel hfm
      by_cases hlt : k < f.size
      · have hlt' : (k : Int) < (f.size : Int) := by omega
        have hx0 : 0 ≤ ((f[k]'hlt).toNat : Int) := by omega
        have hx1 : ((f[k]'hlt).toNat : Int) ≤ 255 := by have := (f[k]'hlt).toNat_lt; omega
        have hmx : ls.length + 1 ≤ maxLen := by unfold maxLen; omega
        by_cases h63 : ((f[k]'hlt).toNat : Int) = 63
        · have q63 : (((f[k]'hlt).toNat : Int) == 63) = true := by simpa using h63
          by_cases hm : 0 ≤ m
          · have HN : Hid (formF f.data.toList = none) := fm_two HF.out hlt h63 hm
            clear h63
            go_wp2
            go_ret
            exact ⟨0, rfl, FrO.none_ (by omega) HN.out, HB.out⟩
          · have hm' : m < 0 := by omega
            have HM := fm_mark HF.out hlt h63 hm'
            have HM' : Hid (fm (f.data.toList.drop (k + 1)) ls ls.length = fm f.data.toList [] (-1)) := HM
            clear HM h63
            go_wp2
            go_roundw
            case rel => exact ⟨k + 1, ls, ls.length, A, C, by go_num, by omega, rfl, rfl, HR.out.1, HR.out.2, by omega, by omega, by omega, HM'.out⟩
            case measure => simp [intOf]; omega
        · have q63 : (((f[k]'hlt).toNat : Int) == 63) = false := by simpa using h63
          by_cases hL : ltB (f[k]'hlt) = true
          · have hL' := hL
            simp only [ltB, letterB, decide_eq_true_eq] at hL'
            clear hL
            have hcases : ((f[k]'hlt).toNat : Int) = 114 ∨ ((f[k]'hlt).toNat : Int) = 110 ∨ ((f[k]'hlt).toNat : Int) = 113 ∨ ((f[k]'hlt).toNat : Int) = 122 ∨ ((f[k]'hlt).toNat : Int) = 100 ∨ ((f[k]'hlt).toNat : Int) = 116 := by omega
            clear hL'
            rcases hcases with hc | hc | hc | hc | hc | hc
            · have Hc : Hid (((f[k]'hlt).toNat : Int) = 114) := hc
              have q0 : (((f[k]'hlt).toNat : Int) == 114) = true := by have := Hc.out; simp; omega
              clear hc
              have tok1 : True := trivial
              go_wp2_with (first | (at_builtin; have _t := tok1; refine wpList_append_own _ rfl _ _ 87 rfl (w.heap.size + 1) 5 i0 (.int .u8 0) 1 1 Tryz.underlying87 hi hz0 hz1 hz2 rfl (by decide) _ _ _ rfl (fs_alloc HR.out.1 _) ⟨_, 0, none⟩ 1 1 [.int .u8 114] rfl rfl (cell1_at _ _ _ _ (by simp)) (by simp [Value.oneCell']) hmx (by omega) (by simp; omega) ?_; intro v4 w4 hown2 hgrow2 _; have hR4 := fs_app (c := f[k]'hlt) Hc.out.symm HR.out (by omega) hown2 hgrow2; clear tok1 hown2 hgrow2) | (at_builtin; have _t := tok1; refine wpList_append_own _ rfl _ _ 87 rfl (w.heap.size + 1) 5 i0 (.int .u8 0) 1 1 Tryz.underlying87 hi hz0 hz1 hz2 rfl (by decide) _ _ _ rfl (fs_alloc HR.out.1 _) ⟨_, 0, none⟩ 1 1 [.int .u8 ((f[k]'hlt).toNat : Int)] rfl rfl (cell1_at _ _ _ _ (by simp)) (by simp [Value.oneCell']) hmx (by omega) (by simp; omega) ?_; intro v4 w4 hown2 hgrow2 _; have hR4 := fs_app (c := f[k]'hlt) rfl HR.out (by omega) hown2 hgrow2; clear tok1 hown2 hgrow2))
              obtain ⟨A4, C4, rfl⟩ := fs_val hR4.1
              go_roundw
              case rel => exact ⟨k + 1, ls ++ [f[k]'hlt], m, A4, C4, by go_num, by omega, by simp, rfl, hR4.1, hR4.2, by simp; omega, hm0, hm1, fm_let HF.out hlt (by have := Hc.out; omega) (by have := Hc.out; simp [ltB, letterB]; omega)⟩
              case measure => simp [intOf]; omega
            · have Hc : Hid (((f[k]'hlt).toNat : Int) = 110) := hc
              have q0 : (((f[k]'hlt).toNat : Int) != 114) = true := by have := Hc.out; simp; omega
              have p0 : ¬ ((f[k]'hlt).toNat : Int) = 114 := by have := Hc.out; omega
              have q1 : (((f[k]'hlt).toNat : Int) == 110) = true := by have := Hc.out; simp; omega
              clear hc
              have tok1 : True := trivial
              go_wp2_with (first | (at_builtin; have _t := tok1; refine wpList_append_own _ rfl _ _ 87 rfl (w.heap.size + 1) 5 i0 (.int .u8 0) 1 1 Tryz.underlying87 hi hz0 hz1 hz2 rfl (by decide) _ _ _ rfl (fs_alloc HR.out.1 _) ⟨_, 0, none⟩ 1 1 [.int .u8 110] rfl rfl (cell1_at _ _ _ _ (by simp)) (by simp [Value.oneCell']) hmx (by omega) (by simp; omega) ?_; intro v4 w4 hown2 hgrow2 _; have hR4 := fs_app (c := f[k]'hlt) Hc.out.symm HR.out (by omega) hown2 hgrow2; clear tok1 hown2 hgrow2) | (at_builtin; have _t := tok1; refine wpList_append_own _ rfl _ _ 87 rfl (w.heap.size + 1) 5 i0 (.int .u8 0) 1 1 Tryz.underlying87 hi hz0 hz1 hz2 rfl (by decide) _ _ _ rfl (fs_alloc HR.out.1 _) ⟨_, 0, none⟩ 1 1 [.int .u8 ((f[k]'hlt).toNat : Int)] rfl rfl (cell1_at _ _ _ _ (by simp)) (by simp [Value.oneCell']) hmx (by omega) (by simp; omega) ?_; intro v4 w4 hown2 hgrow2 _; have hR4 := fs_app (c := f[k]'hlt) rfl HR.out (by omega) hown2 hgrow2; clear tok1 hown2 hgrow2))
              obtain ⟨A4, C4, rfl⟩ := fs_val hR4.1
              go_roundw
              case rel => exact ⟨k + 1, ls ++ [f[k]'hlt], m, A4, C4, by go_num, by omega, by simp, rfl, hR4.1, hR4.2, by simp; omega, hm0, hm1, fm_let HF.out hlt (by have := Hc.out; omega) (by have := Hc.out; simp [ltB, letterB]; omega)⟩
              case measure => simp [intOf]; omega
            · have Hc : Hid (((f[k]'hlt).toNat : Int) = 113) := hc
              have q0 : (((f[k]'hlt).toNat : Int) != 114) = true := by have := Hc.out; simp; omega
              have p0 : ¬ ((f[k]'hlt).toNat : Int) = 114 := by have := Hc.out; omega
              have q1 : (((f[k]'hlt).toNat : Int) != 110) = true := by have := Hc.out; simp; omega
              have p1 : ¬ ((f[k]'hlt).toNat : Int) = 110 := by have := Hc.out; omega
              have q2 : (((f[k]'hlt).toNat : Int) == 113) = true := by have := Hc.out; simp; omega
              clear hc
              have tok1 : True := trivial
              go_wp2_with (first | (at_builtin; have _t := tok1; refine wpList_append_own _ rfl _ _ 87 rfl (w.heap.size + 1) 5 i0 (.int .u8 0) 1 1 Tryz.underlying87 hi hz0 hz1 hz2 rfl (by decide) _ _ _ rfl (fs_alloc HR.out.1 _) ⟨_, 0, none⟩ 1 1 [.int .u8 113] rfl rfl (cell1_at _ _ _ _ (by simp)) (by simp [Value.oneCell']) hmx (by omega) (by simp; omega) ?_; intro v4 w4 hown2 hgrow2 _; have hR4 := fs_app (c := f[k]'hlt) Hc.out.symm HR.out (by omega) hown2 hgrow2; clear tok1 hown2 hgrow2) | (at_builtin; have _t := tok1; refine wpList_append_own _ rfl _ _ 87 rfl (w.heap.size + 1) 5 i0 (.int .u8 0) 1 1 Tryz.underlying87 hi hz0 hz1 hz2 rfl (by decide) _ _ _ rfl (fs_alloc HR.out.1 _) ⟨_, 0, none⟩ 1 1 [.int .u8 ((f[k]'hlt).toNat : Int)] rfl rfl (cell1_at _ _ _ _ (by simp)) (by simp [Value.oneCell']) hmx (by omega) (by simp; omega) ?_; intro v4 w4 hown2 hgrow2 _; have hR4 := fs_app (c := f[k]'hlt) rfl HR.out (by omega) hown2 hgrow2; clear tok1 hown2 hgrow2))
              obtain ⟨A4, C4, rfl⟩ := fs_val hR4.1
              go_roundw
              case rel => exact ⟨k + 1, ls ++ [f[k]'hlt], m, A4, C4, by go_num, by omega, by simp, rfl, hR4.1, hR4.2, by simp; omega, hm0, hm1, fm_let HF.out hlt (by have := Hc.out; omega) (by have := Hc.out; simp [ltB, letterB]; omega)⟩
              case measure => simp [intOf]; omega
            · have Hc : Hid (((f[k]'hlt).toNat : Int) = 122) := hc
              have q0 : (((f[k]'hlt).toNat : Int) != 114) = true := by have := Hc.out; simp; omega
              have p0 : ¬ ((f[k]'hlt).toNat : Int) = 114 := by have := Hc.out; omega
              have q1 : (((f[k]'hlt).toNat : Int) != 110) = true := by have := Hc.out; simp; omega
              have p1 : ¬ ((f[k]'hlt).toNat : Int) = 110 := by have := Hc.out; omega
              have q2 : (((f[k]'hlt).toNat : Int) != 113) = true := by have := Hc.out; simp; omega
              have p2 : ¬ ((f[k]'hlt).toNat : Int) = 113 := by have := Hc.out; omega
              have q3 : (((f[k]'hlt).toNat : Int) == 122) = true := by have := Hc.out; simp; omega
              clear hc
              have tok1 : True := trivial
              go_wp2_with (first | (at_builtin; have _t := tok1; refine wpList_append_own _ rfl _ _ 87 rfl (w.heap.size + 1) 5 i0 (.int .u8 0) 1 1 Tryz.underlying87 hi hz0 hz1 hz2 rfl (by decide) _ _ _ rfl (fs_alloc HR.out.1 _) ⟨_, 0, none⟩ 1 1 [.int .u8 122] rfl rfl (cell1_at _ _ _ _ (by simp)) (by simp [Value.oneCell']) hmx (by omega) (by simp; omega) ?_; intro v4 w4 hown2 hgrow2 _; have hR4 := fs_app (c := f[k]'hlt) Hc.out.symm HR.out (by omega) hown2 hgrow2; clear tok1 hown2 hgrow2) | (at_builtin; have _t := tok1; refine wpList_append_own _ rfl _ _ 87 rfl (w.heap.size + 1) 5 i0 (.int .u8 0) 1 1 Tryz.underlying87 hi hz0 hz1 hz2 rfl (by decide) _ _ _ rfl (fs_alloc HR.out.1 _) ⟨_, 0, none⟩ 1 1 [.int .u8 ((f[k]'hlt).toNat : Int)] rfl rfl (cell1_at _ _ _ _ (by simp)) (by simp [Value.oneCell']) hmx (by omega) (by simp; omega) ?_; intro v4 w4 hown2 hgrow2 _; have hR4 := fs_app (c := f[k]'hlt) rfl HR.out (by omega) hown2 hgrow2; clear tok1 hown2 hgrow2))
              obtain ⟨A4, C4, rfl⟩ := fs_val hR4.1
              go_roundw
              case rel => exact ⟨k + 1, ls ++ [f[k]'hlt], m, A4, C4, by go_num, by omega, by simp, rfl, hR4.1, hR4.2, by simp; omega, hm0, hm1, fm_let HF.out hlt (by have := Hc.out; omega) (by have := Hc.out; simp [ltB, letterB]; omega)⟩
              case measure => simp [intOf]; omega
            · have Hc : Hid (((f[k]'hlt).toNat : Int) = 100) := hc
              have q0 : (((f[k]'hlt).toNat : Int) != 114) = true := by have := Hc.out; simp; omega
              have p0 : ¬ ((f[k]'hlt).toNat : Int) = 114 := by have := Hc.out; omega
              have q1 : (((f[k]'hlt).toNat : Int) != 110) = true := by have := Hc.out; simp; omega
              have p1 : ¬ ((f[k]'hlt).toNat : Int) = 110 := by have := Hc.out; omega
              have q2 : (((f[k]'hlt).toNat : Int) != 113) = true := by have := Hc.out; simp; omega
              have p2 : ¬ ((f[k]'hlt).toNat : Int) = 113 := by have := Hc.out; omega
              have q3 : (((f[k]'hlt).toNat : Int) != 122) = true := by have := Hc.out; simp; omega
              have p3 : ¬ ((f[k]'hlt).toNat : Int) = 122 := by have := Hc.out; omega
              have q4 : (((f[k]'hlt).toNat : Int) == 100) = true := by have := Hc.out; simp; omega
              clear hc
              have tok1 : True := trivial
              go_wp2_with (first | (at_builtin; have _t := tok1; refine wpList_append_own _ rfl _ _ 87 rfl (w.heap.size + 1) 5 i0 (.int .u8 0) 1 1 Tryz.underlying87 hi hz0 hz1 hz2 rfl (by decide) _ _ _ rfl (fs_alloc HR.out.1 _) ⟨_, 0, none⟩ 1 1 [.int .u8 100] rfl rfl (cell1_at _ _ _ _ (by simp)) (by simp [Value.oneCell']) hmx (by omega) (by simp; omega) ?_; intro v4 w4 hown2 hgrow2 _; have hR4 := fs_app (c := f[k]'hlt) Hc.out.symm HR.out (by omega) hown2 hgrow2; clear tok1 hown2 hgrow2) | (at_builtin; have _t := tok1; refine wpList_append_own _ rfl _ _ 87 rfl (w.heap.size + 1) 5 i0 (.int .u8 0) 1 1 Tryz.underlying87 hi hz0 hz1 hz2 rfl (by decide) _ _ _ rfl (fs_alloc HR.out.1 _) ⟨_, 0, none⟩ 1 1 [.int .u8 ((f[k]'hlt).toNat : Int)] rfl rfl (cell1_at _ _ _ _ (by simp)) (by simp [Value.oneCell']) hmx (by omega) (by simp; omega) ?_; intro v4 w4 hown2 hgrow2 _; have hR4 := fs_app (c := f[k]'hlt) rfl HR.out (by omega) hown2 hgrow2; clear tok1 hown2 hgrow2))
              obtain ⟨A4, C4, rfl⟩ := fs_val hR4.1
              go_roundw
              case rel => exact ⟨k + 1, ls ++ [f[k]'hlt], m, A4, C4, by go_num, by omega, by simp, rfl, hR4.1, hR4.2, by simp; omega, hm0, hm1, fm_let HF.out hlt (by have := Hc.out; omega) (by have := Hc.out; simp [ltB, letterB]; omega)⟩
              case measure => simp [intOf]; omega
            · have Hc : Hid (((f[k]'hlt).toNat : Int) = 116) := hc
              have q0 : (((f[k]'hlt).toNat : Int) != 114) = true := by have := Hc.out; simp; omega
              have p0 : ¬ ((f[k]'hlt).toNat : Int) = 114 := by have := Hc.out; omega
              have q1 : (((f[k]'hlt).toNat : Int) != 110) = true := by have := Hc.out; simp; omega
              have p1 : ¬ ((f[k]'hlt).toNat : Int) = 110 := by have := Hc.out; omega
              have q2 : (((f[k]'hlt).toNat : Int) != 113) = true := by have := Hc.out; simp; omega
              have p2 : ¬ ((f[k]'hlt).toNat : Int) = 113 := by have := Hc.out; omega
              have q3 : (((f[k]'hlt).toNat : Int) != 122) = true := by have := Hc.out; simp; omega
              have p3 : ¬ ((f[k]'hlt).toNat : Int) = 122 := by have := Hc.out; omega
              have q4 : (((f[k]'hlt).toNat : Int) != 100) = true := by have := Hc.out; simp; omega
              have p4 : ¬ ((f[k]'hlt).toNat : Int) = 100 := by have := Hc.out; omega
              have q5 : (((f[k]'hlt).toNat : Int) == 116) = true := by have := Hc.out; simp; omega
              clear hc
              have tok1 : True := trivial
              go_wp2_with (first | (at_builtin; have _t := tok1; refine wpList_append_own _ rfl _ _ 87 rfl (w.heap.size + 1) 5 i0 (.int .u8 0) 1 1 Tryz.underlying87 hi hz0 hz1 hz2 rfl (by decide) _ _ _ rfl (fs_alloc HR.out.1 _) ⟨_, 0, none⟩ 1 1 [.int .u8 116] rfl rfl (cell1_at _ _ _ _ (by simp)) (by simp [Value.oneCell']) hmx (by omega) (by simp; omega) ?_; intro v4 w4 hown2 hgrow2 _; have hR4 := fs_app (c := f[k]'hlt) Hc.out.symm HR.out (by omega) hown2 hgrow2; clear tok1 hown2 hgrow2) | (at_builtin; have _t := tok1; refine wpList_append_own _ rfl _ _ 87 rfl (w.heap.size + 1) 5 i0 (.int .u8 0) 1 1 Tryz.underlying87 hi hz0 hz1 hz2 rfl (by decide) _ _ _ rfl (fs_alloc HR.out.1 _) ⟨_, 0, none⟩ 1 1 [.int .u8 ((f[k]'hlt).toNat : Int)] rfl rfl (cell1_at _ _ _ _ (by simp)) (by simp [Value.oneCell']) hmx (by omega) (by simp; omega) ?_; intro v4 w4 hown2 hgrow2 _; have hR4 := fs_app (c := f[k]'hlt) rfl HR.out (by omega) hown2 hgrow2; clear tok1 hown2 hgrow2))
              obtain ⟨A4, C4, rfl⟩ := fs_val hR4.1
              go_roundw
              case rel => exact ⟨k + 1, ls ++ [f[k]'hlt], m, A4, C4, by go_num, by omega, by simp, rfl, hR4.1, hR4.2, by simp; omega, hm0, hm1, fm_let HF.out hlt (by have := Hc.out; omega) (by have := Hc.out; simp [ltB, letterB]; omega)⟩
              case measure => simp [intOf]; omega
          · have hL' : ltB (f[k]'hlt) = false := by simpa using hL
            have HN : Hid (formF f.data.toList = none) := fm_no HF.out hlt (by omega) hL'
            simp only [ltB, letterB, decide_eq_true_eq] at hL
            clear hL'
            have q0 : (((f[k]'hlt).toNat : Int) != 114) = true := by simp; omega
            have p0 : ¬ ((f[k]'hlt).toNat : Int) = 114 := by omega
            have q1 : (((f[k]'hlt).toNat : Int) != 110) = true := by simp; omega
            have p1 : ¬ ((f[k]'hlt).toNat : Int) = 110 := by omega
            have q2 : (((f[k]'hlt).toNat : Int) != 113) = true := by simp; omega
            have p2 : ¬ ((f[k]'hlt).toNat : Int) = 113 := by omega
            have q3 : (((f[k]'hlt).toNat : Int) != 122) = true := by simp; omega
            have p3 : ¬ ((f[k]'hlt).toNat : Int) = 122 := by omega
            have q4 : (((f[k]'hlt).toNat : Int) != 100) = true := by simp; omega
            have p4 : ¬ ((f[k]'hlt).toNat : Int) = 100 := by omega
            have q5 : (((f[k]'hlt).toNat : Int) != 116) = true := by simp; omega
            have p5 : ¬ ((f[k]'hlt).toNat : Int) = 116 := by omega
            clear hL h63
            go_wp2
            go_ret
            exact ⟨0, rfl, FrO.none_ (by omega) HN.out, HB.out⟩
      · obtain rfl : k = f.size := by omega
        have HE := fm_end HF.out
        clear HF hk hlt
        generalize wr = w1 at *
        have HW0 : Hid (Below (w.alloc (.cells #[.string tag, .slice a es.length cap] 45)).heap.size (w.alloc (.cells #[.string tag, .slice a es.length cap] 45)) w1) := HR.out.2.mono (Nat.le_of_eq (World.size_alloc ..))
        have d0 : w1.cell? ⟨w.heap.size, 1, none⟩ = some (.slice a es.length cap) := (HR.out.2.cell (p := ⟨w.heap.size, 1, none⟩) (by simp)).trans (by simp [go_sem])
        by_cases hm : m < 0
        · rw [if_pos hm] at HE
          have HE' : Hid (formF f.data.toList = some (ls, ls.length)) := HE
          clear HE
          have hM : ls.length ≤ 20000 := by omega
          go_wp2_with fail
          go_loopw [9] (fun i wr => ∃ k : Nat, i = .int .i64 (k : Int) ∧ k ≤ es.length ∧ (∀ j, j < k → ¬ badAt ls es j) ∧ Below w1.heap.size w1 wr) (fun i _ => es.length - (intOf i).toNat)
          case atStart => exact ⟨0, rfl, by omega, fun j h => by omega, Below.refl _ _⟩
          case round =>
            obtain ⟨k, rfl, hk, hA, hb⟩ := hrel
            have HA : Hid ((∀ j, j < k → ¬ badAt ls es j) ∧ Below w1.heap.size w1 wr) := ⟨hA, hb⟩
            have d1 : wr.cell? ⟨w.heap.size, 1, none⟩ = some (.slice a es.length cap) := (hb.cell (cell_lt d0)).trans d0
            have HW : Hid (Below w.heap.size w wr) := HB.out.trans (hb.mono HB.out.size)
            clear hA d0
            by_cases hlt : k < es.length
            · have hlt' : (k : Int) < (es.length : Int) := by omega
              have hlt2 : decide ((k : Int) < (es.length : Int)) = true := by simpa using hlt'
              have hlt3 : decide ((es.length : Int) ≤ (k : Int)) = false := by simp; omega
              have hlt4 : decide (es.length ≤ k) = false := by simp; omega
              obtain ⟨b, o, c1, e, u, hv, he, hc, hu⟩ := ((H0.out.1.below HW0.out).below hb).at hlt
              simp only [Value.slice.injEq, true_and] at hv
              obtain ⟨rfl, rfl⟩ := hv
              have hBe : BdS 1048576 e := H0.out.2.2 k e he
              have He : Hid (es[k]? = some e) := he
              have hRw := HR.out.1
              clear he
              obtain ⟨ua, uc, rfl⟩ := hu.val
              by_cases hkl : k < ls.length
              · have hkl' : (k : Int) < (ls.length : Int) := by omega
                have hkl3 : decide ((ls.length : Int) ≤ (k : Int)) = false := by simp; omega
                have hkl4 : decide (ls.length ≤ k) = false := by simp; omega
                have hcc : ls[k]? = some (ls[k]'hkl) := List.getElem?_eq_getElem hkl
                have HK : Hid (ls[k]? = some (ls[k]'hkl)) := hcc
                have hltr : letterB ((ls[k]'hkl).toNat : Int) = true := List.all_eq_true.1 (formF_all HE'.out) _ (List.getElem_mem hkl)
                obtain ⟨g, rfl, hcg⟩ := fs_cell hRw hcc
                have hcg2 := (hb.cell (cell_lt hcg)).trans hcg
                clear hRw hcc hcg
                generalize ls[k]'hkl = cl at *
                unfold u8V at hcg2
                have hy0 : 0 ≤ (cl.toNat : Int) := by omega
                have hy1 : (cl.toNat : Int) ≤ 255 := by have := cl.toNat_lt; omega
                have g1 := cell_lt d1
                have g2 := cell_lt hcg2
                have g3 := cell_lt hc
                clear hb
                cases hbv : elemB (cl.toNat : Int) e with
                | true =>
                  go_wp2_with fail
                  go_region_held3 (fun w' => w'.cell? ⟨w.heap.size, 1, none⟩ = some (.slice (some ⟨b, o, none⟩) es.length cap) ∧ w'.cell? ⟨g, k, none⟩ = some (.int .u8 (cl.toNat : Int)) ∧ w'.cell? ⟨b, o + k, none⟩ = some (.slice ua e.length uc)) (go_keep) (first | (go_at_call 82; refine (l04Element_any _ _ e _ hltr (hu.below (Below.refl _ _).drew) hBe).mono ?_; rintro e1 w3 ⟨rfl, hb3⟩; rw [hbv]; have k1 := (hb3.cell (p := ⟨w.heap.size, 1, none⟩) g1).trans (show wr.drew.cell? _ = _ from d1); have k2 := (hb3.cell (p := ⟨g, k, none⟩) g2).trans (show wr.drew.cell? _ = _ from hcg2); have k3 := (hb3.cell (p := ⟨b, o + k, none⟩) g3).trans (show wr.drew.cell? _ = _ from hc)))
                  have HW3 : Hid (Below w1.heap.size w1 w3) := HA.out.2.trans (((Below.refl _ wr).drew.trans hb3).mono HA.out.2.size)
                  clear hb3 hu
                  go_wp2
                  go_roundw
                  case rel =>
                    refine ⟨k + 1, by go_num, by omega, fun j hj => ?_, HW3.out⟩
                    rcases Nat.lt_or_ge j k with g | g
                    · exact HA.out.1 j g
                    · obtain rfl : j = k := by omega
                      exact not_bad HK.out He.out hbv
                  case measure => simp [intOf]; omega
                | false =>
                  go_wp2_with fail
                  go_region_held3 (fun w' => w'.cell? ⟨w.heap.size, 1, none⟩ = some (.slice (some ⟨b, o, none⟩) es.length cap) ∧ w'.cell? ⟨g, k, none⟩ = some (.int .u8 (cl.toNat : Int)) ∧ w'.cell? ⟨b, o + k, none⟩ = some (.slice ua e.length uc)) (go_keep) (first | (go_at_call 82; refine (l04Element_any _ _ e _ hltr (hu.below (Below.refl _ _).drew) hBe).mono ?_; rintro e1 w3 ⟨rfl, hb3⟩; rw [hbv]; have k1 := (hb3.cell (p := ⟨w.heap.size, 1, none⟩) g1).trans (show wr.drew.cell? _ = _ from d1); have k2 := (hb3.cell (p := ⟨g, k, none⟩) g2).trans (show wr.drew.cell? _ = _ from hcg2); have k3 := (hb3.cell (p := ⟨b, o + k, none⟩) g3).trans (show wr.drew.cell? _ = _ from hc)))
                  have HW3 : Hid (Below w.heap.size w w3) := HW.out.trans (((Below.refl _ wr).drew.trans hb3).mono HW.out.size)
                  clear hb3 hu
                  go_wp2
                  go_ret
                  exact ⟨(k : Int), rfl, FrO.some_ (by omega) HE'.out (.inl ⟨k, hlt, rfl, is_bad HK.out He.out hbv, HA.out.1⟩), HW3.out⟩
              · have hkl' : (ls.length : Int) ≤ (k : Int) := by omega
                have hkl3 : decide ((ls.length : Int) ≤ (k : Int)) = true := by simp; omega
                have hkl4 : decide (ls.length ≤ k) = true := by simp; omega
                clear hb hRw hu
                go_wp2_with fail
                go_quiet (fail)
                go_wp2
                go_ret
                exact ⟨(k : Int), rfl, FrO.some_ (by omega) HE'.out (.inl ⟨k, hlt, rfl, .inl (by omega), HA.out.1⟩), by first | exact below_drewN HW.out _ | exact HW.out⟩
            · obtain rfl : k = es.length := by omega
              have hlt2 : decide ((es.length : Int) < (es.length : Int)) = false := by simp
              have hlt3 : decide ((es.length : Int) ≤ (es.length : Int)) = true := by simp
              clear hb
              by_cases hml : es.length < ls.length
              · have hml' : (es.length : Int) < (ls.length : Int) := by omega
                have hml2 : decide ((es.length : Int) < (ls.length : Int)) = true := by simpa using hml'
                go_wp2_with fail
                go_quiet (fail)
                go_wp2
                go_ret
                exact ⟨(es.length : Int), rfl, FrO.some_ (by omega) HE'.out (.inr ⟨HA.out.1, .inl ⟨hml, rfl⟩⟩), by first | exact below_drewN HW.out _ | exact HW.out⟩
              · have hml' : (ls.length : Int) ≤ (es.length : Int) := by omega
                have hml2 : decide ((es.length : Int) < (ls.length : Int)) = false := by simp; omega
                go_wp2
                go_ret
                exact ⟨-1, rfl, FrO.some_ (by omega) HE'.out (.inr ⟨HA.out.1, .inr ⟨by omega, rfl⟩⟩), HW.out⟩
        · rw [if_neg hm] at HE
          obtain ⟨mn, rfl⟩ : ∃ mn : Nat, m = (mn : Int) := ⟨m.toNat, by omega⟩
          rw [Int.toNat_natCast] at HE
          have HE' : Hid (formF f.data.toList = some (ls, mn)) := HE
          clear HE
          have hM : mn ≤ 20000 := by omega
          have hm' : (0 : Int) ≤ (mn : Int) := by omega
          go_wp2_with fail
          go_loopw [9] (fun i wr => ∃ k : Nat, i = .int .i64 (k : Int) ∧ k ≤ es.length ∧ (∀ j, j < k → ¬ badAt ls es j) ∧ Below w1.heap.size w1 wr) (fun i _ => es.length - (intOf i).toNat)
          case atStart => exact ⟨0, rfl, by omega, fun j h => by omega, Below.refl _ _⟩
          case round =>
            obtain ⟨k, rfl, hk, hA, hb⟩ := hrel
            have HA : Hid ((∀ j, j < k → ¬ badAt ls es j) ∧ Below w1.heap.size w1 wr) := ⟨hA, hb⟩
            have d1 : wr.cell? ⟨w.heap.size, 1, none⟩ = some (.slice a es.length cap) := (hb.cell (cell_lt d0)).trans d0
            have HW : Hid (Below w.heap.size w wr) := HB.out.trans (hb.mono HB.out.size)
            clear hA d0
            by_cases hlt : k < es.length
            · have hlt' : (k : Int) < (es.length : Int) := by omega
              have hlt2 : decide ((k : Int) < (es.length : Int)) = true := by simpa using hlt'
              have hlt3 : decide ((es.length : Int) ≤ (k : Int)) = false := by simp; omega
              have hlt4 : decide (es.length ≤ k) = false := by simp; omega
              obtain ⟨b, o, c1, e, u, hv, he, hc, hu⟩ := ((H0.out.1.below HW0.out).below hb).at hlt
              simp only [Value.slice.injEq, true_and] at hv
              obtain ⟨rfl, rfl⟩ := hv
              have hBe : BdS 1048576 e := H0.out.2.2 k e he
              have He : Hid (es[k]? = some e) := he
              have hRw := HR.out.1
              clear he
              obtain ⟨ua, uc, rfl⟩ := hu.val
              by_cases hkl : k < ls.length
              · have hkl' : (k : Int) < (ls.length : Int) := by omega
                have hkl3 : decide ((ls.length : Int) ≤ (k : Int)) = false := by simp; omega
                have hkl4 : decide (ls.length ≤ k) = false := by simp; omega
                have hcc : ls[k]? = some (ls[k]'hkl) := List.getElem?_eq_getElem hkl
                have HK : Hid (ls[k]? = some (ls[k]'hkl)) := hcc
                have hltr : letterB ((ls[k]'hkl).toNat : Int) = true := List.all_eq_true.1 (formF_all HE'.out) _ (List.getElem_mem hkl)
                obtain ⟨g, rfl, hcg⟩ := fs_cell hRw hcc
                have hcg2 := (hb.cell (cell_lt hcg)).trans hcg
                clear hRw hcc hcg
                generalize ls[k]'hkl = cl at *
                unfold u8V at hcg2
                have hy0 : 0 ≤ (cl.toNat : Int) := by omega
                have hy1 : (cl.toNat : Int) ≤ 255 := by have := cl.toNat_lt; omega
                have g1 := cell_lt d1
                have g2 := cell_lt hcg2
                have g3 := cell_lt hc
                clear hb
                cases hbv : elemB (cl.toNat : Int) e with
                | true =>
                  go_wp2_with fail
                  go_region_held3 (fun w' => w'.cell? ⟨w.heap.size, 1, none⟩ = some (.slice (some ⟨b, o, none⟩) es.length cap) ∧ w'.cell? ⟨g, k, none⟩ = some (.int .u8 (cl.toNat : Int)) ∧ w'.cell? ⟨b, o + k, none⟩ = some (.slice ua e.length uc)) (go_keep) (first | (go_at_call 82; refine (l04Element_any _ _ e _ hltr (hu.below (Below.refl _ _).drew) hBe).mono ?_; rintro e1 w3 ⟨rfl, hb3⟩; rw [hbv]; have k1 := (hb3.cell (p := ⟨w.heap.size, 1, none⟩) g1).trans (show wr.drew.cell? _ = _ from d1); have k2 := (hb3.cell (p := ⟨g, k, none⟩) g2).trans (show wr.drew.cell? _ = _ from hcg2); have k3 := (hb3.cell (p := ⟨b, o + k, none⟩) g3).trans (show wr.drew.cell? _ = _ from hc)))
                  have HW3 : Hid (Below w1.heap.size w1 w3) := HA.out.2.trans (((Below.refl _ wr).drew.trans hb3).mono HA.out.2.size)
                  clear hb3 hu
                  go_wp2
                  go_roundw
                  case rel =>
                    refine ⟨k + 1, by go_num, by omega, fun j hj => ?_, HW3.out⟩
                    rcases Nat.lt_or_ge j k with g | g
                    · exact HA.out.1 j g
                    · obtain rfl : j = k := by omega
                      exact not_bad HK.out He.out hbv
                  case measure => simp [intOf]; omega
                | false =>
                  go_wp2_with fail
                  go_region_held3 (fun w' => w'.cell? ⟨w.heap.size, 1, none⟩ = some (.slice (some ⟨b, o, none⟩) es.length cap) ∧ w'.cell? ⟨g, k, none⟩ = some (.int .u8 (cl.toNat : Int)) ∧ w'.cell? ⟨b, o + k, none⟩ = some (.slice ua e.length uc)) (go_keep) (first | (go_at_call 82; refine (l04Element_any _ _ e _ hltr (hu.below (Below.refl _ _).drew) hBe).mono ?_; rintro e1 w3 ⟨rfl, hb3⟩; rw [hbv]; have k1 := (hb3.cell (p := ⟨w.heap.size, 1, none⟩) g1).trans (show wr.drew.cell? _ = _ from d1); have k2 := (hb3.cell (p := ⟨g, k, none⟩) g2).trans (show wr.drew.cell? _ = _ from hcg2); have k3 := (hb3.cell (p := ⟨b, o + k, none⟩) g3).trans (show wr.drew.cell? _ = _ from hc)))
                  have HW3 : Hid (Below w.heap.size w w3) := HW.out.trans (((Below.refl _ wr).drew.trans hb3).mono HW.out.size)
                  clear hb3 hu
                  go_wp2
                  go_ret
                  exact ⟨(k : Int), rfl, FrO.some_ (by omega) HE'.out (.inl ⟨k, hlt, rfl, is_bad HK.out He.out hbv, HA.out.1⟩), HW3.out⟩
              · have hkl' : (ls.length : Int) ≤ (k : Int) := by omega
                have hkl3 : decide ((ls.length : Int) ≤ (k : Int)) = true := by simp; omega
                have hkl4 : decide (ls.length ≤ k) = true := by simp; omega
                clear hb hRw hu
                go_wp2_with fail
                go_quiet (fail)
                go_wp2
                go_ret
                exact ⟨(k : Int), rfl, FrO.some_ (by omega) HE'.out (.inl ⟨k, hlt, rfl, .inl (by omega), HA.out.1⟩), by first | exact below_drewN HW.out _ | exact HW.out⟩
            · obtain rfl : k = es.length := by omega
              have hlt2 : decide ((es.length : Int) < (es.length : Int)) = false := by simp
              have hlt3 : decide ((es.length : Int) ≤ (es.length : Int)) = true := by simp
              clear hb
              by_cases hml : es.length < mn
              · have hml' : (es.length : Int) < (mn : Int) := by omega
                have hml2 : decide ((es.length : Int) < (mn : Int)) = true := by simpa using hml'
                go_wp2_with fail
                go_quiet (fail)
                go_wp2
                go_ret
                exact ⟨(es.length : Int), rfl, FrO.some_ (by omega) HE'.out (.inr ⟨HA.out.1, .inl ⟨hml, rfl⟩⟩), by first | exact below_drewN HW.out _ | exact HW.out⟩
              · have hml' : (mn : Int) ≤ (es.length : Int) := by omega
                have hml2 : decide ((es.length : Int) < (mn : Int)) = false := by simp; omega
                go_wp2
                go_ret
                exact ⟨-1, rfl, FrO.some_ (by omega) HE'.out (.inr ⟨HA.out.1, .inr ⟨by omega, rfl⟩⟩), HW.out⟩
end Go.Proofs.YtbefefmfpenkkaaGreatDoor
namespace Go.Proofs.YtbefefmfpenkkaaGreatDoor
open Go.ChangeShapes Go.WideShapes Go.ChangeAt Go.RowKit
theorem rows_mostK {k : Nat} (h1 : 1 ≤ k) (h7 : k ≤ 7) : ∀ r ∈ rowsK k, 0 ≤ r.most := by
  obtain rfl | rfl | rfl | rfl | rfl | rfl | rfl : k = 1 ∨ k = 2 ∨ k = 3 ∨ k = 4 ∨ k = 5 ∨ k = 6 ∨ k = 7 := by omega
  all_goals
    intro r hr
    simp only [rowsK, List.mem_cons, List.not_mem_nil, or_false] at hr
    rcases hr with rfl | rfl | rfl <;> decide
set_option maxRecDepth 20000 in
set_option maxHeartbeats 8000000 in
theorem tableCheck_spec (n : Int) (v : Value) (gs : List Seg) (w : World) (h : RowG w v gs) (hG : BdG 1048576 gs) :
    Calls Tryz.prog 47 #[.int .i64 n, v] w fun e w' => e = .returned (tcVal (tcV n gs)) ∧ Below w.heap.size w w' := by
  obtain ⟨a, cap, rfl⟩ := h.val
  have hgl := hG.1
  have b0 : Below w.heap.size w (w.alloc (.cells #[.int .i64 0, .int .i64 0, .int .i64 0] 70)) := (Below.refl _ _).alloc (Nat.le_refl _) _
  by_cases hl : 400 < gs.length
  · have hl' : (400 : Int) < (gs.length : Int) := by omega
    rw [tcV_big hl]
    clear h
    go_enter Tryz.func47, Tryz.ntmps47
    go_wp2
    exact bodyPost_ret (v := tcVal (0, 0, 2)) (by simp [results, Tryz.results47, go_sem, tcVal]) rfl ⟨rfl, by first | exact b0 | exact (Below.refl _ _).alloc (Nat.le_refl _) _⟩
  · have hl' : (gs.length : Int) ≤ 400 := by omega
    by_cases hk : 1 ≤ n ∧ n ≤ 7
    · rw [tcV_yes hl hk]
      have hne : (rowsI n).length ≠ 0 := by
        obtain rfl | rfl | rfl | rfl | rfl | rfl | rfl : n = 1 ∨ n = 2 ∨ n = 3 ∨ n = 4 ∨ n = 5 ∨ n = 6 ∨ n = 7 := by omega
        all_goals decide
      have hrl := rowsI_len n
      have hfm : ∀ r ∈ rowsI n, r.form.length ≤ 1048576 := by
        have : rowsI n = rowsK n.toNat := by simp [rowsI, hk]
        rw [this]
        exact rows_form (by omega) (by omega)
      have HM : Hid (∀ r ∈ rowsI n, 0 ≤ r.most) := by
        have : rowsI n = rowsK n.toNat := by simp [rowsI, hk]
        rw [this]
        exact rows_mostK (by omega) (by omega)
      have H : Hid (RowG (w.alloc (.cells #[.int .i64 0, .int .i64 0, .int .i64 0] 70)) (.slice a gs.length cap) gs ∧ BdG 1048576 gs ∧ ∀ r ∈ rowsI n, r.form.length ≤ 1048576) := ⟨h.below b0, hG, hfm⟩
      generalize hP : tc gs (rowsI n) 0 (bs []) = P
      have HP : Hid (tc gs (rowsI n) 0 (bs []) = P) := hP
      clear hP h hG hfm
      go_enter Tryz.func47, Tryz.ntmps47
      go_wp2_with fail
      refine (tableOf_spec n _).mono ?_
      rintro e w1 ⟨vr, rfl, hO, hb1⟩
      obtain ⟨A, C, rfl, hA⟩ := hO.sl
      have hz : (((rowsI n).length : Int) == 0) = false := by rw [beq_eq_false_iff_ne]; omega
      obtain ⟨b, off, rfl, hR⟩ := hA (by omega)
      have H1 : Hid (RowG w1 (.slice a gs.length cap) gs ∧ RowsAt w1 b off (rowsI n) ∧ Below (w.heap.size + 1) (w.alloc (.cells #[.int .i64 0, .int .i64 0, .int .i64 0] 70)) w1) := ⟨H.out.1.below hb1, hR, hb1.mono (Nat.le_of_eq (World.size_alloc ..).symm)⟩
      clear hA hO hR hb1
      generalize hRs : rowsI n = rs at *
      go_wp2_with fail
      go_loopw [6, 7] (fun av i wr => ∃ (j at_ : Nat) (l : ByteArray), i = .int .i64 (j : Int) ∧ av = .int .i64 (at_ : Int) ∧ j ≤ rs.length ∧ at_ ≤ gs.length ∧ (0 < j → (rs[j - 1]?.map (fun r => bs r.tag)) = some l) ∧ tc gs (rs.drop j) at_ l = P ∧ Below w1.heap.size w1 wr) (fun _ i _ => rs.length - (intOf i).toNat)
      case atStart => exact ⟨0, 0, bs [], rfl, rfl, by omega, by omega, fun h => by omega, HP.out, Below.refl _ _⟩
      case round =>
        obtain ⟨j, at_, l, rfl, rfl, hj, hat, hlast, htc, hbw⟩ := hrel
        have HT : Hid (tc gs (rs.drop j) at_ l = P ∧ (0 < j → (rs[j - 1]?.map (fun r => bs r.tag)) = some l)) := ⟨htc, hlast⟩
        clear htc hlast
        by_cases hlt : j < rs.length
        · have hlt' : (j : Int) < (rs.length : Int) := by omega
          have hr := List.getElem?_eq_getElem hlt
          have hdr : rs.drop j = rs[j] :: rs.drop (j + 1) := List.drop_eq_getElem_cons hlt
          have hfl : (rs[j]).form.length ≤ 1048576 := H.out.2.2 _ (List.getElem_mem hlt)
          have hmo : 0 ≤ (rs[j]).most := HM.out _ (List.getElem_mem hlt)
          generalize rs[j] = r at *
          obtain ⟨q0, q1, q2, q3⟩ := H1.out.2.1 j r hr
          have Hr : Hid (rs[j]? = some r) := hr
          have Hd : Hid (tc gs (r :: rs.drop (j + 1)) at_ l = P) := by show _ = _; rw [← hdr]; exact HT.out.1
          have HWr : Hid (Below w1.heap.size w1 wr) := hbw
          clear hbw hdr hr HT
          generalize hwo : wr = wo at *
          clear hwo
          go_wp2_with fail
          go_loopw [6, 8] (fun av nv wr => ∃ c a2 : Nat, av = .int .i64 (a2 : Int) ∧ nv = .int .i64 (c : Int) ∧ a2 ≤ gs.length ∧ (c : Int) ≤ r.most ∧ (a2 = at_ + c ∧ tk r (gs.drop a2) c = tk r (gs.drop at_) 0) ∧ Below w1.heap.size w1 wr) (fun av _ _ => gs.length - (intOf av).toNat)
          case atStart => exact ⟨0, at_, rfl, rfl, hat, hmo, ⟨rfl, rfl⟩, HWr.out⟩
          case round =>
            obtain ⟨c, a2, rfl, rfl, hac, hcm, ⟨ha2, htk⟩, hbw⟩ := hrel
            have p0 := (hbw.cell (cell_lt q0)).trans q0
            have p1 := (hbw.cell (cell_lt q1)).trans q1
            have p2 := (hbw.cell (cell_lt q2)).trans q2
            have p3 := (hbw.cell (cell_lt q3)).trans q3
            have hw1 : w.heap.size + 1 ≤ w1.heap.size := by have := H1.out.2.2.size; simpa using this
            have hbW : Below (w.heap.size + 1) (w.alloc (.cells #[.int .i64 0, .int .i64 0, .int .i64 0] 70)) wr := H1.out.2.2.trans (hbw.mono hw1)
            have z0 : wr.cell? ⟨w.heap.size, 0, none⟩ = some (.int .i64 0) := (hbW.cell (p := ⟨w.heap.size, 0, none⟩) (by simp)).trans (by simp [go_sem])
            have z1 : wr.cell? ⟨w.heap.size, 1, none⟩ = some (.int .i64 0) := (hbW.cell (p := ⟨w.heap.size, 1, none⟩) (by simp)).trans (by simp [go_sem])
            have z2 : wr.cell? ⟨w.heap.size, 2, none⟩ = some (.int .i64 0) := (hbW.cell (p := ⟨w.heap.size, 2, none⟩) (by simp)).trans (by simp [go_sem])
            have hf : ∀ o, wr.frozen? ⟨w.heap.size, o, none⟩ = false := fun o => by rw [hbW.frozen (p := ⟨w.heap.size, o, none⟩) (by simp)]; exact fz_new ..
            have HW : Hid (Below w.heap.size w wr ∧ Below w1.heap.size w1 wr) := ⟨b0.trans (hbW.mono (by omega)), hbw⟩
            have HK : Hid (tk r (gs.drop a2) c = tk r (gs.drop at_) 0) := htk
            have HA : Hid (a2 = at_ + c) := ha2
            have hcb : c ≤ a2 := by omega
            clear ha2 htk hbW hbw
            by_cases hm : (c : Int) < r.most
            · have hm' : decide ((c : Int) < r.most) = true := decide_eq_true hm
              by_cases hlg : a2 < gs.length
              · have hlg1 : (a2 : Int) < (gs.length : Int) := by omega
                have hlg2 : decide ((a2 : Int) < (gs.length : Int)) = true := decide_eq_true hlg1
                have hlg3 : decide (a2 < gs.length) = true := decide_eq_true hlg
                obtain ⟨bg, og, cg, g, u, hv, hg, s0, s1, hE, hgz⟩ := (H1.out.1.below HW.out.2).at hlg
                simp only [Value.slice.injEq, true_and] at hv
                obtain ⟨rfl, rfl⟩ := hv
                have Hg : Hid (gs[a2]? = some g ∧ RowE wr u g.2) := ⟨hg, hE⟩
                have hdg : gs.drop (a2) = g :: gs.drop (a2 + 1) := by
                  rw [List.drop_eq_getElem_cons hlg]
                  congr 1
                  exact Option.some.inj ((List.getElem?_eq_getElem hlg).symm.trans hg)
                have HD : Hid (gs.drop (a2) = g :: gs.drop (a2 + 1)) := hdg
                clear hg hE hdg
                by_cases ht : g.1 = bs r.tag
                · have ht1 : (g.1.toList == (bs r.tag).toList) = true := by rw [ht]; simp
                  have HKt : Hid (g.1 = bs r.tag) := ht
                  clear ht
                  go_wp2_with fail
                  go_quiet (fail)
                  have e0 : (wr.drewN nq).cell? ⟨b, off + j * 4, none⟩ = some (.string (bs r.tag)) := p0
                  have e1 : (wr.drewN nq).cell? ⟨b, off + j * 4 + 1, none⟩ = some (.int .i64 r.least) := p1
                  have e2 : (wr.drewN nq).cell? ⟨b, off + j * 4 + 2, none⟩ = some (.int .i64 r.most) := p2
                  have e3 : (wr.drewN nq).cell? ⟨b, off + j * 4 + 3, none⟩ = some (.string (bs r.form)) := p3
                  have f0 : (wr.drewN nq).cell? ⟨bg, og + a2 * 2, none⟩ = some (.string g.1) := s0
                  have f1 : (wr.drewN nq).cell? ⟨bg, og + a2 * 2 + 1, none⟩ = some u := s1
                  have v0 : (wr.drewN nq).cell? ⟨w.heap.size, 0, none⟩ = some (.int .i64 0) := z0
                  have v1 : (wr.drewN nq).cell? ⟨w.heap.size, 1, none⟩ = some (.int .i64 0) := z1
                  have v2 : (wr.drewN nq).cell? ⟨w.heap.size, 2, none⟩ = some (.int .i64 0) := z2
                  have vf : ∀ o, (wr.drewN nq).frozen? ⟨w.heap.size, o, none⟩ = false := hf
                  have hB4 : Below wr.heap.size wr (wr.drewN nq) := below_drewN (Below.refl _ _) _
                  have HW4 : Hid (Below w.heap.size w (wr.drewN nq) ∧ Below w1.heap.size w1 (wr.drewN nq)) := ⟨below_drewN HW.out.1 _, below_drewN HW.out.2 _⟩
                  have hE4 := Hg.out.2.below hB4
                  clear hB4
                  generalize wr.drewN nq = w4 at *
                  clear p0 p1 p2 p3 z0 z1 z2 hf HW s0 s1
                  obtain ⟨au, cu, rfl⟩ := hE4.val
                  have HE4 : Hid (RowE w4 (.slice au g.2.length cu) g.2 ∧ BdE 1048576 g.2) := ⟨hE4, (H.out.2.1.2 a2 g Hg.out.1).2⟩
                  have hfz : (bs r.form).size ≤ 1048576 := hfl
                  have hwz : w.heap.size < w4.heap.size := cell_lt v0
                  clear hE4
                  go_wp2_with fail
                  go_region_held3 (fun W => W.cell? ⟨b, off + j * 4 + 3, none⟩ = some (.string (bs r.form)) ∧ W.cell? ⟨bg, og + a2 * 2, none⟩ = some (.string g.1) ∧ W.cell? ⟨bg, og + a2 * 2 + 1, none⟩ = some (.slice au g.2.length cu)) (go_keep) (first | (go_at_call 70; refine (formRight_spec (bs r.form) g.1 _ g.2 _ hfz (HE4.out.1.below (Below.refl _ _).drew) HE4.out.2).mono ?_; rintro e w5 ⟨fr, rfl, hfr, hb5⟩; have g3 : w5.cell? ⟨b, off + j * 4 + 3, none⟩ = some (.string (bs r.form)) := (hb5.cell (p := ⟨b, off + j * 4 + 3, none⟩) (show b < w4.heap.size from cell_lt e3)).trans e3; have i0 : w5.cell? ⟨bg, og + a2 * 2, none⟩ = some (.string g.1) := (hb5.cell (p := ⟨bg, og + a2 * 2, none⟩) (show bg < w4.heap.size from cell_lt f0)).trans f0; have i1 : w5.cell? ⟨bg, og + a2 * 2 + 1, none⟩ = some (.slice au g.2.length cu) := (hb5.cell (p := ⟨bg, og + a2 * 2 + 1, none⟩) (show bg < w4.heap.size from cell_lt f1)).trans f1))
                  rename_i hHeld
                  clear hHeld
                  have t0 : w5.cell? ⟨w.heap.size, 0, none⟩ = some (.int .i64 0) := (hb5.cell (p := ⟨w.heap.size, 0, none⟩) hwz).trans v0
                  have t1 : w5.cell? ⟨w.heap.size, 1, none⟩ = some (.int .i64 0) := (hb5.cell (p := ⟨w.heap.size, 1, none⟩) hwz).trans v1
                  have t2 : w5.cell? ⟨w.heap.size, 2, none⟩ = some (.int .i64 0) := (hb5.cell (p := ⟨w.heap.size, 2, none⟩) hwz).trans v2
                  have tf : ∀ o, w5.frozen? ⟨w.heap.size, o, none⟩ = false := fun o => (hb5.frozen (p := ⟨w.heap.size, o, none⟩) hwz).trans (vf o)
                  have HF : Hid (fr = frV (bs r.form) g.2) := frV_is hfr
                  have HW5 : Hid (Below w.heap.size w w5 ∧ Below w1.heap.size w1 w5) := ⟨HW4.out.1.drew.trans (hb5.mono HW4.out.1.size), HW4.out.2.drew.trans (hb5.mono HW4.out.2.size)⟩
                  clear hb5 hfr v0 v1 v2 vf HW4 e0 e1 e2 e3 f0 f1 g3 i0 i1
                  by_cases hp : 0 ≤ fr
                  · have HPk : Hid (P = ((a2 : Int), fr, 3)) := by
                      have HQ : tk r (gs.drop at_) 0 = (c, fr) := by
                        rw [← HK.out, HD.out, tk, if_neg (fun q => q.elim (fun g => absurd g (by omega)) (fun g => g HKt.out)), if_pos (by rw [← HF.out]; exact hp), ← HF.out]
                      show _ = _
                      rw [← Hd.out, tc, HQ, if_pos hp]
                      simp [HA.out]
                    go_wp2
                    exact bodyPost_ret (v := tcVal ((a2 : Int), fr, 3)) (by simp [results, Tryz.results47, go_sem, tcVal, t0, t1, t2]) rfl ⟨by rw [HPk.out], ((HW5.out.1.setCell (show w.heap.size ≤ w.heap.size from Nat.le_refl _) _).setCell (show w.heap.size ≤ w.heap.size from Nat.le_refl _) _).setCell (show w.heap.size ≤ w.heap.size from Nat.le_refl _) _⟩
                  · have hp' : fr < 0 := by omega
                    have HQ : Hid (tk r (gs.drop (a2 + 1)) (c + 1) = tk r (gs.drop at_) 0) := by
                      show _ = _
                      rw [← HK.out, HD.out, tk, if_neg (fun q => q.elim (fun g => absurd g (by omega)) (fun g => g HKt.out)), if_neg (by rw [← HF.out]; exact hp)]
                    go_wp2
                    go_roundw
                    case rel => exact ⟨c + 1, a2 + 1, by go_num, by go_num, by omega, by omega, ⟨by have := HA.out; omega, HQ.out⟩, HW5.out.2⟩
                    case measure => simp [intOf]; omega
                · have ht1 : (g.1.toList == (bs r.tag).toList) = false := by
                    rw [beq_eq_false_iff_ne]
                    intro e
                    apply ht
                    rw [Lib.toList_data, Lib.toList_data] at e
                    exact ByteArray.ext (Array.toList_inj.1 e)
                  have HQ : Hid (tk r (gs.drop at_) 0 = (c, -1)) := by
                    show _ = _
                    rw [← HK.out, HD.out, tk, if_pos (.inr ht)]
                  clear HK ht
                  go_wp2_with fail
                  go_quiet (fail)
                  have e1 : (wr.drewN nq).cell? ⟨b, off + j * 4 + 1, none⟩ = some (.int .i64 r.least) := p1
                  have v0 : (wr.drewN nq).cell? ⟨w.heap.size, 0, none⟩ = some (.int .i64 0) := z0
                  have v1 : (wr.drewN nq).cell? ⟨w.heap.size, 1, none⟩ = some (.int .i64 0) := z1
                  have v2 : (wr.drewN nq).cell? ⟨w.heap.size, 2, none⟩ = some (.int .i64 0) := z2
                  have vf : ∀ o, (wr.drewN nq).frozen? ⟨w.heap.size, o, none⟩ = false := hf
                  have HW4 : Hid (Below w.heap.size w (wr.drewN nq) ∧ Below w1.heap.size w1 (wr.drewN nq)) := ⟨below_drewN HW.out.1 _, below_drewN HW.out.2 _⟩
                  generalize wr.drewN nq = w4 at *
                  clear p0 p1 p2 p3 z0 z1 z2 hf HW
                  by_cases hle : (c : Int) < r.least
                  · have HPk : Hid (P = ((a2 : Int), 0, 4)) := by show _ = _; rw [← Hd.out, tc, HQ.out, if_neg (by simp), if_pos hle]; simp [HA.out]
                    go_wp2
                    exact bodyPost_ret (v := tcVal ((a2 : Int), 0, 4)) (by simp [results, Tryz.results47, go_sem, tcVal, v0, v1, v2]) rfl ⟨by rw [HPk.out], ((HW4.out.1.setCell (show w.heap.size ≤ w.heap.size from Nat.le_refl _) _).setCell (show w.heap.size ≤ w.heap.size from Nat.le_refl _) _).setCell (show w.heap.size ≤ w.heap.size from Nat.le_refl _) _⟩
                  · have hle' : r.least ≤ (c : Int) := by omega
                    have HPk : Hid (tc gs (rs.drop (j + 1)) a2 (bs r.tag) = P) := by
                      show _ = _
                      rw [← Hd.out, HA.out]
                      conv => rhs; rw [tc, HQ.out, if_neg (by simp), if_neg hle]
                    go_wp2
                    go_roundw
                    case rel => exact ⟨j + 1, a2, bs r.tag, by go_num, rfl, by omega, by omega, fun _ => by rw [show j + 1 - 1 = j from rfl, Hr.out]; rfl, HPk.out, HW4.out.2⟩
                    case measure => simp [intOf]; omega
              · obtain hlg0 : a2 = gs.length := by omega
                have hlg1 : ¬ (a2 : Int) < (gs.length : Int) := by omega
                have hlg2 : decide ((a2 : Int) < (gs.length : Int)) = false := decide_eq_false hlg1
                have hlg3 : decide (a2 < gs.length) = false := decide_eq_false hlg
                have HQ : Hid (tk r (gs.drop at_) 0 = (c, -1)) := by show _ = _; rw [← HK.out, hlg0, List.drop_length]; rfl
                clear HK
                clear hlg0
                go_wp2_with fail
                go_quiet (fail)
                have e1 : (wr.drewN nq).cell? ⟨b, off + j * 4 + 1, none⟩ = some (.int .i64 r.least) := p1
                have v0 : (wr.drewN nq).cell? ⟨w.heap.size, 0, none⟩ = some (.int .i64 0) := z0
                have v1 : (wr.drewN nq).cell? ⟨w.heap.size, 1, none⟩ = some (.int .i64 0) := z1
                have v2 : (wr.drewN nq).cell? ⟨w.heap.size, 2, none⟩ = some (.int .i64 0) := z2
                have vf : ∀ o, (wr.drewN nq).frozen? ⟨w.heap.size, o, none⟩ = false := hf
                have HW4 : Hid (Below w.heap.size w (wr.drewN nq) ∧ Below w1.heap.size w1 (wr.drewN nq)) := ⟨below_drewN HW.out.1 _, below_drewN HW.out.2 _⟩
                generalize wr.drewN nq = w4 at *
                clear p0 p1 p2 p3 z0 z1 z2 hf HW
                by_cases hle : (c : Int) < r.least
                · have HPk : Hid (P = ((a2 : Int), 0, 4)) := by show _ = _; rw [← Hd.out, tc, HQ.out, if_neg (by simp), if_pos hle]; simp [HA.out]
                  go_wp2
                  exact bodyPost_ret (v := tcVal ((a2 : Int), 0, 4)) (by simp [results, Tryz.results47, go_sem, tcVal, v0, v1, v2]) rfl ⟨by rw [HPk.out], ((HW4.out.1.setCell (show w.heap.size ≤ w.heap.size from Nat.le_refl _) _).setCell (show w.heap.size ≤ w.heap.size from Nat.le_refl _) _).setCell (show w.heap.size ≤ w.heap.size from Nat.le_refl _) _⟩
                · have hle' : r.least ≤ (c : Int) := by omega
                  have HPk : Hid (tc gs (rs.drop (j + 1)) a2 (bs r.tag) = P) := by
                    show _ = _
                    rw [← Hd.out, HA.out]
                    conv => rhs; rw [tc, HQ.out, if_neg (by simp), if_neg hle]
                  go_wp2
                  go_roundw
                  case rel => exact ⟨j + 1, a2, bs r.tag, by go_num, rfl, by omega, by omega, fun _ => by rw [show j + 1 - 1 = j from rfl, Hr.out]; rfl, HPk.out, HW4.out.2⟩
                  case measure => simp [intOf]; omega
            · have hm0 : (c : Int) = r.most := by omega
              have hm1 : decide ((c : Int) < r.most) = false := decide_eq_false hm
              have HQ : Hid (tk r (gs.drop at_) 0 = (c, -1)) := by
                show _ = _
                rw [← HK.out]
                cases gs.drop (a2) with
                | nil => rfl
                | cons g t => rw [tk, if_pos (.inl hm0)]
              clear HK hm0
              go_wp2_with fail
              go_quiet (fail)
              have e1 : (wr.drewN nq).cell? ⟨b, off + j * 4 + 1, none⟩ = some (.int .i64 r.least) := p1
              have v0 : (wr.drewN nq).cell? ⟨w.heap.size, 0, none⟩ = some (.int .i64 0) := z0
              have v1 : (wr.drewN nq).cell? ⟨w.heap.size, 1, none⟩ = some (.int .i64 0) := z1
              have v2 : (wr.drewN nq).cell? ⟨w.heap.size, 2, none⟩ = some (.int .i64 0) := z2
              have vf : ∀ o, (wr.drewN nq).frozen? ⟨w.heap.size, o, none⟩ = false := hf
              have HW4 : Hid (Below w.heap.size w (wr.drewN nq) ∧ Below w1.heap.size w1 (wr.drewN nq)) := ⟨below_drewN HW.out.1 _, below_drewN HW.out.2 _⟩
              generalize wr.drewN nq = w4 at *
              clear p0 p1 p2 p3 z0 z1 z2 hf HW
              by_cases hle : (c : Int) < r.least
              · have HPk : Hid (P = ((a2 : Int), 0, 4)) := by show _ = _; rw [← Hd.out, tc, HQ.out, if_neg (by simp), if_pos hle]; simp [HA.out]
                go_wp2
                exact bodyPost_ret (v := tcVal ((a2 : Int), 0, 4)) (by simp [results, Tryz.results47, go_sem, tcVal, v0, v1, v2]) rfl ⟨by rw [HPk.out], ((HW4.out.1.setCell (show w.heap.size ≤ w.heap.size from Nat.le_refl _) _).setCell (show w.heap.size ≤ w.heap.size from Nat.le_refl _) _).setCell (show w.heap.size ≤ w.heap.size from Nat.le_refl _) _⟩
              · have hle' : r.least ≤ (c : Int) := by omega
                have HPk : Hid (tc gs (rs.drop (j + 1)) a2 (bs r.tag) = P) := by
                  show _ = _
                  rw [← Hd.out, HA.out]
                  conv => rhs; rw [tc, HQ.out, if_neg (by simp), if_neg hle]
                go_wp2
                go_roundw
                case rel => exact ⟨j + 1, a2, bs r.tag, by go_num, rfl, by omega, by omega, fun _ => by rw [show j + 1 - 1 = j from rfl, Hr.out]; rfl, HPk.out, HW4.out.2⟩
                case measure => simp [intOf]; omega
        · obtain rfl : j = rs.length := by omega
          obtain ⟨m, hm⟩ : ∃ m, rs.length = m + 1 := ⟨rs.length - 1, by omega⟩
          obtain ⟨rl, hrl2, hltag⟩ : ∃ rl, rs[m]? = some rl ∧ bs rl.tag = l := by
            have := HT.out.2 (by omega)
            rw [hm, Nat.add_sub_cancel] at this
            cases hx : rs[m]? with
            | none => rw [hx] at this; cases this
            | some rl => rw [hx] at this; exact ⟨rl, rfl, by simpa using this⟩
          obtain ⟨q0, _, _, _⟩ := H1.out.2.1 m rl hrl2
          have HE : Hid (tc gs [] at_ l = P) := by show _ = _; rw [← HT.out.1, List.drop_length]
          have hw1 : w.heap.size + 1 ≤ w1.heap.size := by have := H1.out.2.2.size; simpa using this
          have hbW : Below (w.heap.size + 1) (w.alloc (.cells #[.int .i64 0, .int .i64 0, .int .i64 0] 70)) wr := H1.out.2.2.trans (hbw.mono hw1)
          have z0 : wr.cell? ⟨w.heap.size, 0, none⟩ = some (.int .i64 0) := (hbW.cell (p := ⟨w.heap.size, 0, none⟩) (by simp)).trans (by simp [go_sem])
          have z1 : wr.cell? ⟨w.heap.size, 1, none⟩ = some (.int .i64 0) := (hbW.cell (p := ⟨w.heap.size, 1, none⟩) (by simp)).trans (by simp [go_sem])
          have z2 : wr.cell? ⟨w.heap.size, 2, none⟩ = some (.int .i64 0) := (hbW.cell (p := ⟨w.heap.size, 2, none⟩) (by simp)).trans (by simp [go_sem])
          have hf : ∀ o, wr.frozen? ⟨w.heap.size, o, none⟩ = false := fun o => by rw [hbW.frozen (p := ⟨w.heap.size, o, none⟩) (by simp)]; exact fz_new ..
          have HW : Hid (Below w.heap.size w wr ∧ Below w1.heap.size w1 wr) := ⟨b0.trans (hbW.mono (by omega)), hbw⟩
          have p0 := (hbw.cell (cell_lt q0)).trans q0
          have HX : Hid (bs rl.tag = l) := hltag
          clear hbW hbw HT q0 hltag
          by_cases hae : at_ = gs.length
          · have hae1 : ¬ (at_ : Int) < (gs.length : Int) := by omega
            have HPk : Hid (P = (0, 0, 0)) := by show _ = _; rw [← HE.out, tc, if_pos hae]
            clear hae
            go_wp2
            exact bodyPost_ret (v := tcVal (0, 0, 0)) (by simp [results, Tryz.results47, go_sem, tcVal, z0, z1, z2]) rfl ⟨by rw [HPk.out], ((HW.out.1.setCell (show w.heap.size ≤ w.heap.size from Nat.le_refl _) _).setCell (show w.heap.size ≤ w.heap.size from Nat.le_refl _) _).setCell (show w.heap.size ≤ w.heap.size from Nat.le_refl _) _⟩
          · have hlg : at_ < gs.length := by omega
            have hlg1 : (at_ : Int) < (gs.length : Int) := by omega
            obtain ⟨bg, og, cg, g, u, hv, hg, s0, s1, hE, hgz⟩ := (H1.out.1.below HW.out.2).at hlg
            simp only [Value.slice.injEq, true_and] at hv
            obtain ⟨rfl, rfl⟩ := hv
            have Hg : Hid ((gs[at_]?.map (·.1)).getD ⟨#[]⟩ = g.1) := by show _ = _; rw [hg]; rfl
            clear hg hE
            by_cases ht : g.1 = bs rl.tag
            · have ht1 : (g.1.toList == (bs rl.tag).toList) = true := by rw [ht]; simp
              have HPk : Hid (P = ((at_ : Int), 0, 7)) := by show _ = _; rw [← HE.out, tc, if_neg hae, if_pos (by rw [Hg.out, ht]; exact HX.out)]
              clear ht hae
              go_wp2_with fail
              go_quiet (fail)
              have v0 : (wr.drewN nq).cell? ⟨w.heap.size, 0, none⟩ = some (.int .i64 0) := z0
              have v1 : (wr.drewN nq).cell? ⟨w.heap.size, 1, none⟩ = some (.int .i64 0) := z1
              have v2 : (wr.drewN nq).cell? ⟨w.heap.size, 2, none⟩ = some (.int .i64 0) := z2
              have vf : ∀ o, (wr.drewN nq).frozen? ⟨w.heap.size, o, none⟩ = false := hf
              have HW4 : Hid (Below w.heap.size w (wr.drewN nq)) := below_drewN HW.out.1 _
              generalize wr.drewN nq = w4 at *
              clear p0 z0 z1 z2 hf HW s0 s1
              go_wp2
              exact bodyPost_ret (v := tcVal ((at_ : Int), 0, 7)) (by simp [results, Tryz.results47, go_sem, tcVal, v0, v1, v2]) rfl ⟨by rw [HPk.out], ((HW4.out.setCell (show w.heap.size ≤ w.heap.size from Nat.le_refl _) _).setCell (show w.heap.size ≤ w.heap.size from Nat.le_refl _) _).setCell (show w.heap.size ≤ w.heap.size from Nat.le_refl _) _⟩
            · have ht1 : (g.1.toList == (bs rl.tag).toList) = false := by
                rw [beq_eq_false_iff_ne]
                intro e
                apply ht
                rw [Lib.toList_data, Lib.toList_data] at e
                exact ByteArray.ext (Array.toList_inj.1 e)
              have HPk : Hid (P = ((at_ : Int), 0, 3)) := by show _ = _; rw [← HE.out, tc, if_neg hae, if_neg (by rw [Hg.out, ← HX.out]; exact ht)]
              clear ht hae
              go_wp2_with fail
              go_quiet (fail)
              have v0 : (wr.drewN nq).cell? ⟨w.heap.size, 0, none⟩ = some (.int .i64 0) := z0
              have v1 : (wr.drewN nq).cell? ⟨w.heap.size, 1, none⟩ = some (.int .i64 0) := z1
              have v2 : (wr.drewN nq).cell? ⟨w.heap.size, 2, none⟩ = some (.int .i64 0) := z2
              have vf : ∀ o, (wr.drewN nq).frozen? ⟨w.heap.size, o, none⟩ = false := hf
              have HW4 : Hid (Below w.heap.size w (wr.drewN nq)) := below_drewN HW.out.1 _
              generalize wr.drewN nq = w4 at *
              clear p0 z0 z1 z2 hf HW s0 s1
              go_wp2
              exact bodyPost_ret (v := tcVal ((at_ : Int), 0, 3)) (by simp [results, Tryz.results47, go_sem, tcVal, v0, v1, v2]) rfl ⟨by rw [HPk.out], ((HW4.out.setCell (show w.heap.size ≤ w.heap.size from Nat.le_refl _) _).setCell (show w.heap.size ≤ w.heap.size from Nat.le_refl _) _).setCell (show w.heap.size ≤ w.heap.size from Nat.le_refl _) _⟩
    · rw [tcV_no hl hk]
      have hI : rowsI n = [] := by simp [rowsI, hk]
      go_enter Tryz.func47, Tryz.ntmps47
      go_wp2_with fail
      refine (tableOf_spec n _).mono ?_
      rintro e w1 ⟨vr, rfl, hO, hb1⟩
      obtain ⟨A, C, rfl, hA⟩ := hO.sl
      have z0 : w1.cell? ⟨w.heap.size, 0, none⟩ = some (.int .i64 0) := (hb1.cell (p := ⟨w.heap.size, 0, none⟩) (by simp)).trans (by simp [go_sem])
      have z1 : w1.cell? ⟨w.heap.size, 1, none⟩ = some (.int .i64 0) := (hb1.cell (p := ⟨w.heap.size, 1, none⟩) (by simp)).trans (by simp [go_sem])
      have z2 : w1.cell? ⟨w.heap.size, 2, none⟩ = some (.int .i64 0) := (hb1.cell (p := ⟨w.heap.size, 2, none⟩) (by simp)).trans (by simp [go_sem])
      have hf : ∀ o, w1.frozen? ⟨w.heap.size, o, none⟩ = false := fun o => by rw [hb1.frozen (p := ⟨w.heap.size, o, none⟩) (by simp)]; exact fz_new ..
      have HB : Hid (Below w.heap.size w w1) := b0.trans (hb1.mono (by simp))
      have hz : ((rowsI n).length : Int) = 0 := by rw [hI]; rfl
      clear hA hO hb1 h
      rw [hI] at *
      go_wp2
      exact bodyPost_ret (v := tcVal (0, 0, 1)) (by simp [results, Tryz.results47, go_sem, tcVal, z0, z1, z2]) rfl ⟨rfl, ((HB.out.setCell (show w.heap.size ≤ w.heap.size from Nat.le_refl _) _).setCell (show w.heap.size ≤ w.heap.size from Nat.le_refl _) _).setCell (show w.heap.size ≤ w.heap.size from Nat.le_refl _) _⟩
end Go.Proofs.YtbefefmfpenkkaaGreatDoor
